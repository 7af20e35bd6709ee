/-
  Package grid: rows of cells that grow; put.
-/
import Derived.Test.YthnhcphkpffkfaaGreatYB
import Derived.Test.YthnhcphkpffkfaaGreatYG
import Derived.Test.YthnhcphkpffkfaaGreatRgI
import Derived.Deep.DeepCutAuto
namespace Go.Proofs.YthnhcphkpffkfaaGreat
open Go.RowKit

theorem row_typ {lo b : Nat} {w : World} {v : Value} {e t : TypeId} {k n : Nat} {xs : List Value} {cs : Array Value} (h : w.ownsRow lo e k v n xs) (hk : Bk w b cs t) (ht : t ≠ e) : v.ownBlock ≠ some b := by
  obtain ⟨hl, ⟨rfl, _⟩ | ⟨g, cap, cur, rfl, _, h1, _⟩⟩ := h
  · intro e; cases e
  · intro e
    simp [Value.ownBlock] at e
    subst e
    exact ht (Bk.typ hk h1)
theorem row_typ2 {lo lo' : Nat} {w : World} {v v' : Value} {e e' : TypeId} {k k' n n' : Nat} {xs xs' : List Value} (h : w.ownsRow lo e k v n xs) (h' : w.ownsRow lo' e' k' v' n' xs') (ht : e ≠ e') : v.ownBlock = none ∨ v.ownBlock ≠ v'.ownBlock := by
  obtain ⟨hl, ⟨rfl, _⟩ | ⟨g, cap, cur, rfl, _, h1, _⟩⟩ := h
  · exact .inl rfl
  · refine .inr fun c => ?_
    exact row_typ h' (show Bk w g cur e from h1) ht c.symm
/-- Rows of cells that a call made. -/
structure PlM (lo : Nat) (w : World) (v : Value) (us : List Value) (R : List (List Pc)) : Prop where
  own : w.ownsRow lo 88 1 v R.length us
  ins : ∀ (r : Nat) (h : r < R.length) (u : Value), us[r]? = some u → OwK 68 3 fC lo w u R[r]
  apt : ∀ (r s : Nat) (u t : Value) (g : Nat), us[r]? = some u → us[s]? = some t → u.ownBlock = some g → t.ownBlock = some g → r = s
theorem PlM.len {lo : Nat} {w : World} {v : Value} {us : List Value} {R : List (List Pc)} (h : PlM lo w v us R) : us.length = R.length := by
  have := h.own.1
  rwa [Nat.mul_one] at this
theorem PlM.nil (lo : Nat) (w : World) : PlM lo w (.slice none 0 0) [] [] := ⟨World.ownsRow_nil _ _ _ _, fun r h => absurd h (by simp), fun r s u t g h => by simp at h⟩
theorem PlM.kept {lo : Nat} {w w' : World} {v : Value} {us : List Value} {R : List (List Pc)} {row : Option Nat} (h : PlM lo w v us R) (hg : w.grownBy w' row) (h1 : v.ownBlock = none ∨ v.ownBlock ≠ row) (h2 : ∀ (r : Nat) (u : Value), us[r]? = some u → u.ownBlock = none ∨ u.ownBlock ≠ row) : PlM lo w' v us R :=
  ⟨h.own.kept hg h1, fun r hr u hu => World.ownsRow.kept (h.ins r hr u hu) hg (h2 r u hu), h.apt⟩
theorem PlM.below {lo : Nat} {w w' : World} {v : Value} {us : List Value} {R : List (List Pc)} (h : PlM lo w v us R) (hb : Below w.heap.size w w') : PlM lo w' v us R :=
  ⟨row_below h.own hb, fun r hr u hu => (h.ins r hr u hu).below hb, h.apt⟩
theorem PlM.box {lo : Nat} {w : World} {v : Value} {us : List Value} {R : List (List Pc)} {b : Nat} {cs : Array Value} (h : PlM lo w v us R) (hk : Bk w b cs 58) (o : Nat) (x : Value) : PlM lo (w.setCell ⟨b, o, none⟩ x) v us R := by
  refine h.kept (grow_set w b o x) (.inr (row_typ h.own hk (by decide))) fun r u hu => .inr ?_
  have hr : r < R.length := by rw [← h.len]; exact (List.getElem?_eq_some_iff.1 hu).1
  exact row_typ (h.ins r hr u hu) hk (by decide)
theorem PlM.rs {lo : Nat} {w : World} {v : Value} {us : List Value} {R : List (List Pc)} (h : PlM lo w v us R) : RsM w v us R := by
  have hl := h.len
  obtain ⟨oa, cap, e, hc, hg⟩ := row_val h.own
  refine ⟨oa, cap, e, hc, fun hp => ?_⟩
  obtain ⟨g, e1, _, g2⟩ := hg hp
  subst e1
  subst e
  refine ⟨g, 0, rfl, g2, fun r hr => ?_⟩
  obtain ⟨u, hu⟩ : ∃ u, us[r]? = some u := ⟨_, List.getElem?_eq_getElem (by omega)⟩
  refine ⟨u, hu, ?_, (h.ins r hr u hu).ks encC⟩
  rw [Nat.zero_add, own_cell h.own r (by omega), hu]
/-- A row more. -/
theorem PlM.push {lo : Nat} {w w' : World} {v v' : Value} {us : List Value} {R : List (List Pc)} (h : PlM lo w v us R) (ho : w'.ownsRow lo 88 1 v' (R.length + 1) (us ++ [.slice none 0 0])) (hg : w.grownBy w' v.ownBlock) : PlM lo w' v' (us ++ [.slice none 0 0]) (R ++ [[]]) := by
  have hl := h.len
  refine ⟨by rw [List.length_append]; exact ho, fun r hr u hu => ?_, fun r s u t g hr hs hu ht => ?_⟩
  · by_cases c : r < R.length
    · rw [List.getElem?_append_left (by omega)] at hu
      have := h.ins r c u hu
      rw [List.getElem_append_left c]
      exact World.ownsRow.kept this hg (row_typ2 this h.own (by decide))
    · have e : r = R.length := by rw [List.length_append] at hr; simp at hr; omega
      subst e
      rw [List.getElem?_append_right (by omega), hl, Nat.sub_self] at hu
      injection hu with hu
      subst hu
      rw [List.getElem_append_right (Nat.le_refl _)]
      simp only [Nat.sub_self, List.getElem_cons_zero]
      exact OwK.nil _ _ _ _ _
  · have aux : ∀ {r : Nat} {u : Value}, (us ++ [.slice none 0 0])[r]? = some u → u.ownBlock = some g → us[r]? = some u := by
      intro r u hr hu
      by_cases c : r < us.length
      · rwa [List.getElem?_append_left c] at hr
      · rw [List.getElem?_append_right (by omega)] at hr
        by_cases c2 : r - us.length = 0
        · rw [c2] at hr
          injection hr with hr
          subst hr
          cases hu
        · rw [List.getElem?_eq_none (by simp; omega)] at hr
          cases hr
    exact h.apt r s u t g (aux hr hu) (aux hs ht) hu ht
/-- A cell more in a row. -/
theorem PlM.grow {lo : Nat} {w w' : World} {og cap m : Nat} {us : List Value} {R : List (List Pc)} {u u' : Value} {c : Pc} {g : Nat} (hm : m < R.length) (h : PlM lo w (.slice (some ⟨og, 0, none⟩) R.length cap) us R) (hu : us[m]? = some u)
    (ho : w'.ownsRow lo 68 3 u' (R[m].length + 1) (flatK fC R[m] ++ flatI (fC c))) (hg : w.grownBy w' u.ownBlock) (hb : u'.ownBlock = some g) (hlies : u.ownBlock = some g ∨ g = w.heap.size) :
    w'.ownsRow lo 88 1 (.slice (some ⟨og, 0, none⟩) R.length cap) R.length us ∧ PlM lo (w'.setCell ⟨og, m, none⟩ u') (.slice (some ⟨og, 0, none⟩) R.length cap) (us.set m u') (R.set m (R[m] ++ [c])) := by
  have hl := h.len
  have hin := h.ins m hm u hu
  have hk : w'.ownsRow lo 88 1 (.slice (some ⟨og, 0, none⟩) R.length cap) R.length us := h.own.kept hg (row_typ2 h.own hin (by decide))
  refine ⟨hk, ?_, fun r hr t ht => ?_, fun r s t t' q hr hs ht ht' => ?_⟩
  · rw [List.length_set]
    exact own_set hk m u'
  · rw [List.length_set] at hr
    have hset : ∀ {x : Value} {n : Nat} {xs : List Value}, w'.ownsRow lo 68 3 x n xs → (w'.setCell ⟨og, m, none⟩ u').ownsRow lo 68 3 x n xs := fun k => World.ownsRow.kept k (grow_set w' og m u') (row_typ2 k hk (by decide))
    by_cases e : r = m
    · subst e
      rw [List.getElem?_set_self (by omega)] at ht
      injection ht with ht
      subst ht
      rw [List.getElem_set_self]
      have : OwK 68 3 fC lo w' u' (R[r] ++ [c]) := OwK.snoc rfl ho
      exact hset this
    · rw [List.getElem?_set_ne (fun k => e k.symm)] at ht
      rw [List.getElem_set_ne (fun k => e k.symm)]
      have k := h.ins r hr t ht
      refine hset (World.ownsRow.kept k hg ?_)
      cases ht' : t.ownBlock with
      | none => exact .inl rfl
      | some q => exact .inr fun c => e (h.apt r m t u q ht hu ht' c.symm)
  · have hlt : ∀ {r : Nat} {t : Value} {q : Nat}, us[r]? = some t → t.ownBlock = some q → q < w.heap.size := fun {r t q} hr ht => by
      have hr' : r < R.length := by rw [← hl]; exact (List.getElem?_eq_some_iff.1 hr).1
      exact (row_lt (h.ins r hr' t hr) q ht).2
    have far : ∀ {r : Nat} {t : Value}, r ≠ m → us[r]? = some t → t.ownBlock = some g → False := fun {r t} e hr ht => by
      rcases hlies with k | k
      · exact e (h.apt r m t u g hr hu ht k)
      · have := hlt hr ht
        omega
    by_cases e : r = m
    · by_cases e' : s = m
      · omega
      · subst e
        rw [List.getElem?_set_self (by omega)] at hr
        injection hr with hr
        subst hr
        rw [List.getElem?_set_ne (fun k => e' k.symm)] at hs
        rw [hb] at ht
        injection ht with ht
        subst ht
        exact (far e' hs ht').elim
    · rw [List.getElem?_set_ne (fun k => e k.symm)] at hr
      by_cases e' : s = m
      · subst e'
        rw [List.getElem?_set_self (by omega)] at hs
        injection hs with hs
        subst hs
        rw [hb] at ht'
        injection ht' with ht'
        subst ht'
        exact (far e hr ht).elim
      · rw [List.getElem?_set_ne (fun k => e' k.symm)] at hs
        exact h.apt r s t t' q hr hs ht ht'
theorem info_row : (Tryz.prog.info? 88).map (fun i => (i.zero, i.size, i.bytes)) = some (some (.slice none 0 0), 1, 24) := by kernel_rfl
theorem info_cell : (Tryz.prog.info? 68).map (fun i => (i.zero, i.size, i.bytes)) = some (some (.agg #[.int .i64 0, .int .i64 0, .int .i64 0]), 3, 24) := by kernel_rfl

end Go.Proofs.YthnhcphkpffkfaaGreat

namespace Go.Proofs.YthnhcphkpffkfaaGreat
open Go.RowKit
attribute [local go_sem] ite_maxK ite_minK

def JP1 (w : World) (qa : Option Addr) (rb pb og cap qc m n k cx s : Nat) (us : List Value) (Q : List (List Pc)) (q : List Pc) (b : Nat → Bool) (u42 u43 u44 u45 u46 u47 u48 u49 u50 u51 u52 u53 u54 u55 u56 u57 u58 : Value) (x : World) : Prop :=
  (b 0 = true → u42 = .pointer (some ⟨pb, 1, none⟩)) ∧
  (b 1 = true → u43 = .slice (some ⟨og, 0, none⟩) Q.length cap) ∧
  (b 2 = true → u44 = .int .i64 (m : Nat)) ∧
  (b 3 = true → u45 = .pointer (some ⟨pb, 1, none⟩)) ∧
  (b 4 = true → u46 = .slice (some ⟨og, 0, none⟩) Q.length cap) ∧
  (b 5 = true → u47 = .int .i64 (m : Nat)) ∧
  (b 6 = true → u48 = .pointer (some ⟨og, m, none⟩)) ∧
  (b 7 = true → u49 = .slice qa q.length qc) ∧
  (b 8 = true → u50 = .int .i64 (k : Nat)) ∧
  (b 9 = true → u51 = .int .i64 (cx : Nat)) ∧
  (b 10 = true → u52 = .int .i64 (cx : Nat)) ∧
  (b 11 = true → u53 = .int .i64 (s : Nat)) ∧
  (b 12 = true → u54 = .int .i64 ((cx : Int) + (s : Int))) ∧
  (b 13 = true → u55 = .agg #[.int .i64 (k : Nat), .int .i64 (cx : Nat), .int .i64 ((cx : Int) + (s : Int))]) ∧
  (b 14 = true → ∃ g, u56 = .slice (some ⟨g, 0, none⟩) 1 1 ∧ (b 15 = false → Bk x g #[.int .i64 (k : Nat), .int .i64 (cx : Nat), .int .i64 ((cx : Int) + (s : Int))] 68)) ∧
  (b 15 = true → b 14 = true ∧ b 7 = true ∧ ∃ g c, u57 = .slice (some ⟨g, 0, none⟩) (q.length + 1) c ∧ (b 17 = false → PlM w.heap.size (x.setCell ⟨og, m, none⟩ u57) (.slice (some ⟨og, 0, none⟩) Q.length cap) (us.set m u57) (Q.set m (q ++ [⟨k, cx, cx + s⟩])))) ∧
  (b 16 = true → u58 = .pointer (some ⟨og, m, none⟩)) ∧
  (b 17 = true → b 15 = true ∧ b 14 = true ∧ b 7 = true ∧ ∃ us', PlM w.heap.size x (.slice (some ⟨og, 0, none⟩) Q.length cap) us' (Q.set m (q ++ [⟨k, cx, cx + s⟩]))) ∧
  Bk x pb #[.int .i64 (n : Nat), .slice (some ⟨og, 0, none⟩) Q.length cap] 58 ∧
  (b 17 = false → x.ownsRow w.heap.size 88 1 (.slice (some ⟨og, 0, none⟩) Q.length cap) Q.length us) ∧
  (b 15 = false → PlM w.heap.size x (.slice (some ⟨og, 0, none⟩) Q.length cap) us Q) ∧
  Below w.heap.size w x ∧
  Bk x rb #[.int .i64 0, .slice none 0 0] 58

theorem ptR_row_le (n : Nat) (h0 : 0 < n) (l : List Int) : ∀ i, i ≤ l.length → ∀ r ∈ ptR (cel n l) i, r.length ≤ i
  | 0, _ => fun r hr => by simp [ptR] at hr
  | i + 1, h => fun r hr => by
    have ih := ptR_row_le n h0 l i (by omega)
    rw [ptR_succ (by rw [cel_len]; omega)] at hr
    unfold rwA at hr
    have hO : ∀ q ∈ rwO (ptR (cel n l) i) (decide (((cel n l)[i]'(by rw [cel_len]; omega)).y = (ptR (cel n l) i).length)), q.length ≤ i := fun q hq => by
      unfold rwO at hq
      split at hq
      · rcases List.mem_append.1 hq with hq | hq
        · exact ih q hq
        · simp at hq; subst hq; simp
      · exact ih q hq
    rcases List.mem_or_eq_of_mem_set hr with hr | rfl
    · have := hO r hr; omega
    · rw [List.length_append, List.length_singleton]
      have : ∀ (Q : List (List Pc)) (j : Nat), (∀ q ∈ Q, q.length ≤ i) → (Q.getD j []).length ≤ i := fun Q j hQ => by
        rw [List.getD_eq_getElem?_getD]
        cases e : Q[j]? with
        | none => simp
        | some q => exact hQ q (List.mem_of_getElem? e)
      have := this _ ((rwO (ptR (cel n l) i) (decide (((cel n l)[i]'(by rw [cel_len]; omega)).y = (ptR (cel n l) i).length))).length - 1) hO
      omega

theorem one_nilY : ∀ u ∈ [Value.slice none 0 0], u.oneCell' = true := by
  intro u hu
  simp at hu
  subst hu
  rfl
theorem ptR_le (C : List Cl) : ∀ i, (ptR C i).length ≤ i
  | 0 => Nat.le_refl _
  | i + 1 => by
    have ih := ptR_le C i
    rw [ptR]
    split
    · rw [rwA_len]; split <;> omega
    · omega

set_option maxRecDepth 10000 in
set_option maxHeartbeats 8000000 in
theorem put_any (l : List Int) (col : Int) (sv : Value) (w : World) (hs : IS w sv l) (hl : l.length ≤ 1024) (hcol : 0 ≤ col ∧ col ≤ 64) :
    Calls Tryz.prog 24 #[sv, .int .i64 col] w fun e w' => ∃ v us, e = .returned (.agg #[.int .i64 (clN col : Nat), v]) ∧ Hid (PlM w.heap.size w' v us (prw (clN col) l) ∧ Below w.heap.size w w') := by
  have HCo : Hid (∀ x W, Calls Tryz.prog 57 #[.int .i64 x] W fun e w' => e = .returned (.int .i64 (max x 1)) ∧ w' = W) := fun x W => counted_any x W
  have HC0 : Hid (∀ W, Calls Tryz.prog 57 #[.int .i64 col] W fun e w' => e = .returned (.int .i64 (clN col : Nat)) ∧ w' = W) := fun W => by rw [clN_int]; exact counted_any col W
  have HN0 : Hid (0 < clN col) := clN_pos col
  have hn64 := (clN_bd hcol).2
  unfold prw
  generalize clN col = n at *
  obtain ⟨so, sc, rfl, _, hg⟩ := hs
  have HG : Hid (0 < l.length → ∃ g o, so = some ⟨g, o, none⟩ ∧ g < w.heap.size ∧ ∀ i (h : i < l.length), w.cell? ⟨g, o + i, none⟩ = some (.int .i64 l[i])) := hg
  clear hg
  obtain ⟨i0, hi, hz0, hz1, hz2⟩ := info_parts info_row
  have HI : Hid (Tryz.prog.info? 88 = some i0 ∧ i0.zero = some (.slice none 0 0) ∧ i0.size = 1 ∧ i0.bytes = 24) := ⟨hi, hz0, hz1, hz2⟩
  obtain ⟨j0, ki, kz0, kz1, kz2⟩ := info_parts info_cell
  have HJ0 : Hid (Tryz.prog.info? 68 = some j0 ∧ j0.zero = some (.agg #[.int .i64 0, .int .i64 0, .int .i64 0]) ∧ j0.size = 3 ∧ j0.bytes = 24) := ⟨ki, kz0, kz1, kz2⟩
  clear hi hz0 hz1 hz2 ki kz0 kz1 kz2
  go_enter Tryz.func24, Tryz.ntmps24
  go_wp2_with fail
  refine (HC0.out _).mono ?_
  rintro e w1 ⟨rfl, rfl⟩
  have H0 : Hid (Below w.heap.size w ((w.alloc (.cells #[.int .i64 0, .slice none 0 0] 58)).alloc (.cells #[.int .i64 (n : Nat), .slice none 0 0] 58)) ∧ Bk ((w.alloc (.cells #[.int .i64 0, .slice none 0 0] 58)).alloc (.cells #[.int .i64 (n : Nat), .slice none 0 0] 58)) w.heap.size #[.int .i64 0, .slice none 0 0] 58 ∧ Bk ((w.alloc (.cells #[.int .i64 0, .slice none 0 0] 58)).alloc (.cells #[.int .i64 (n : Nat), .slice none 0 0] 58)) (w.heap.size + 1) #[.int .i64 (n : Nat), .slice none 0 0] 58) := by
    refine ⟨((Below.refl _ _).alloc (Nat.le_refl _) _).alloc (by simp) _, (Bk.new _ _ _).alloc _, ?_⟩
    exact Bk.newB (by simp)
  go_wp2_with fail
  generalize (w.alloc (.cells #[.int .i64 0, .slice none 0 0] 58)).alloc (.cells #[.int .i64 (n : Nat), .slice none 0 0] 58) = W0 at *
  obtain ⟨pb, Hpb⟩ : ∃ pb, Hid (pb = w.heap.size + 1) := ⟨_, rfl⟩
  obtain ⟨rb, Hrb⟩ : ∃ rb, Hid (rb = w.heap.size) := ⟨_, rfl⟩
  have H1 : Hid (Below w.heap.size w W0 ∧ Bk W0 rb #[.int .i64 0, .slice none 0 0] 58 ∧ Bk W0 pb #[.int .i64 (n : Nat), .slice none 0 0] 58) := by rw [Hpb.out, Hrb.out]; exact H0.out
  clear H0
  rw [← Hpb.out, ← Hrb.out]
  go_loopw [6, 7, 8, 9, 17] (fun s6 _ _ _ i wr => ∃ k : Nat, k ≤ l.length ∧ i = .int .i64 k ∧ s6 = .int .i64 (nxt n l k : Nat) ∧ Hid (∃ v us, PlM w.heap.size wr v us (ptR (cel n l) k) ∧ Below w.heap.size w wr ∧ Bk wr rb #[.int .i64 0, .slice none 0 0] 58 ∧ Bk wr pb #[.int .i64 (n : Nat), v] 58)) (fun _ _ _ _ i _ => l.length - (intOf i).toNat)
  case atStart => exact ⟨0, Nat.zero_le _, rfl, rfl, _, _, PlM.nil _ _, H1.out.1, H1.out.2.1, H1.out.2.2⟩
  case round =>
    obtain ⟨k, hk, rfl, rfl, HK⟩ := hrel
    clear H1
    by_cases hlt : k < l.length
    · have ik : (k : Int) < l.length := by omega
      have hkC : k < (cel n l).length := by rw [cel_len]; exact hlt
      obtain ⟨st1, st2, st3, st4, st5, st6⟩ := put_step HN0.out hlt hkC
      have hwd := wdN_bd HN0.out l[k]
      have HWD : Hid (((wdN n l[k] : Nat) : Int) = min (max l[k] 1) (n : Int)) := by unfold Hid wdN; omega
      have HNx : Hid (ptR (cel n l) (k + 1) = rwA (ptR (cel n l) k) (decide (n < nxt n l k + wdN n l[k])) (pcC k (cel n l)[k]) ∧ (cel n l)[k].x + (cel n l)[k].k = nxt n l (k + 1)) := by
        unfold Hid
        refine ⟨by rw [ptR_succ hkC, st1], ?_⟩
        rw [st4, st2]
      have HX : Hid ((cel n l)[k].x = if n < nxt n l k + wdN n l[k] then 0 else nxt n l k) := st3
      have HX2 : Hid ((cel n l)[k].k = wdN n l[k]) := st2
      have HX4 : Hid (nxt n l (k + 1) = (cel n l)[k].x + wdN n l[k]) := st4
      have HRl : Hid ((ptR (cel n l) k).length ≤ 1024 ∧ (∀ r ∈ ptR (cel n l) k, r.length ≤ 1024)) := by
        exact ⟨by have := ptR_le (cel n l) k; omega, fun r hr => by have := ptR_row_le n HN0.out l k (by omega) r hr; omega⟩
      have HO6 : Hid (0 < (rwO (ptR (cel n l) k) (decide (n < nxt n l k + wdN n l[k]))).length) := by unfold Hid; omega
      clear st1 st2 st3 st4 st6
      obtain ⟨v, us, hp, hb, hr, hbk⟩ := HK.out
      obtain ⟨g, o, rfl, hgl, hat⟩ := HG.out (by omega)
      have x0 := (hb.cell (p := ⟨g, o + k, none⟩) hgl).trans (hat k hlt)
      have c0 : wr.cell? ⟨pb, 0, none⟩ = some (.int .i64 (n : Nat)) := hbk.at2.1
      have c1 : wr.cell? ⟨pb, 1, none⟩ = some v := hbk.at2.2
      have HP : Hid (PlM w.heap.size wr v us (ptR (cel n l) k) ∧ Below w.heap.size w wr ∧ Bk wr rb #[.int .i64 0, .slice none 0 0] 58 ∧ Bk wr pb #[.int .i64 (n : Nat), v] 58) := ⟨hp, hb, hr, hbk⟩
      clear HK hp hb hr hbk hat
      generalize hwk : wdN n l[k] = s at *
      generalize l[k] = sk at *
      generalize hck : (cel n l)[k] = ck at *
      generalize ptR (cel n l) k = R at *
      generalize nxt n l k = nx at *
      go_upto_region 6 with fail
      have lpb : pb < wr.heap.size := HP.out.2.2.2.lt
      refine R4.wp_region_lit 5 0 1 (fun _ _ => undef) (fun _ => .cells #[] 0) [] (by kernel_rfl) (by kernel_rfl) rfl (fun k hk => absurd hk (by omega)) rfl ?_
      apply Exists.intro
      refine ⟨fun bs ne => ?_, fun i h1 h2 => absurd h2 (by omega), ?_⟩
      · have d0 := fun t : Gb wr bs => (t.below.cell (p := ⟨pb, 0, none⟩) lpb).trans c0
        simp only [List.take_succ_cons, List.take_zero]
        repeat (go_big_quiet_step (first
          | (go_at_call 57; exact gb_call ((HCo.out sk _).mono fun e w' ⟨a, b⟩ => ⟨a, b ▸ Below.refl _ _⟩))))
        exact wpQuiet_nil rfl
      intro bl wx hbl _ _
      simp only [R4.layL]
      have HP1 : Hid (PlM w.heap.size wx v us R ∧ Below w.heap.size w wx ∧ Bk wx rb #[.int .i64 0, .slice none 0 0] 58 ∧ Bk wx pb #[.int .i64 (n : Nat), v] 58) := ⟨HP.out.1.below hbl, HP.out.2.1.trans (hbl.mono HP.out.2.1.size), HP.out.2.2.1.below hbl, HP.out.2.2.2.below hbl⟩
      clear HP hbl c0 c1 x0 lpb
      rw [← HWD.out]
      refine wpAny_one 5 (by kernel_rfl) rfl ?_
      intro K hK
      go_simp
      refine hK _ _ ?_
      clear hK K
      refine wpAny_done (by kernel_rfl) ?_ _
      have c0 : wx.cell? ⟨pb, 0, none⟩ = some (.int .i64 (n : Nat)) := HP1.out.2.2.2.at2.1
      have c1 : wx.cell? ⟨pb, 1, none⟩ = some v := HP1.out.2.2.2.at2.2
      have hw1 : IntKind.i64.wrap ((nx : Int) + (s : Int)) = (nx : Int) + s := by rw [IntKind.wrap_i64]; omega
      go_upto_if 32 with fail
      go_cut [6] (fun s6 wy => ∃ v us, s6 = .int .i64 (ck.x : Nat) ∧ Hid (PlM w.heap.size wy v us (rwO R (decide (n < nx + s))) ∧ Below w.heap.size w wy ∧ Bk wy rb #[.int .i64 0, .slice none 0 0] 58 ∧ Bk wy pb #[.int .i64 (n : Nat), v] 58))
      case first =>
        by_cases hf : n < nx + s
        · have hf' : (n : Int) < (nx : Int) + s := by omega
          obtain ⟨hi, hz0, hz1, hz2⟩ := HI.out
          have HA : Hid (∀ o, (wx.alloc o).ownsRow w.heap.size 88 1 v R.length us ∧ w.heap.size ≤ (wx.alloc o).heap.size) := fun o => ⟨row_below HP1.out.1.own ((Below.refl _ _).alloc (Nat.le_refl _) _), by have := HP1.out.2.1.size; simp; omega⟩
          have hc3 : Hid (R.length + 1 ≤ maxLen) := by have := HRl.out.1; unfold Hid maxLen; omega
          have hc4 : Hid ((R.length + 1) * 24 ≤ 140737488355328) := by have := HRl.out.1; unfold Hid; omega
          have Hx0 : Hid (ck.x = 0) := by unfold Hid; rw [HX.out, if_pos hf]
          have Hdf : Hid (decide (n < nx + s) = true) := decide_eq_true hf
          clear hf
          go_wp2_with (at_builtin; refine wpList_append_lies _ rfl _ _ 56 rfl w.heap.size 88 i0 (.slice none 0 0) 1 24 Tryz.underlying56 hi hz0 hz1 hz2 rfl (by decide) v R.length us rfl (HA.out _).1 _ 1 1 [.slice none 0 0] rfl rfl (cell_oneB _ _ _ _ rfl) one_nilY (by decide) hc3.out hc4.out (HA.out _).2 _ rfl ?_)
          intro g4 cap4 w4 hown' hgrow _ hg4
          have H4 : Hid (PlM w.heap.size w4 (.slice (some ⟨g4, 0, none⟩) (R.length + 1) cap4) (us ++ [.slice none 0 0]) (R ++ [[]]) ∧ Below w.heap.size w w4 ∧ Bk w4 rb #[.int .i64 0, .slice none 0 0] 58 ∧ Bk w4 pb #[.int .i64 (n : Nat), v] 58) := by
            have b1 : Below wx.heap.size wx (wx.alloc (.cells #[.slice none 0 0] 88)) := (Below.refl _ _).alloc (Nat.le_refl _) _
            have p1 := HP1.out.1.below b1
            have hr := HP1.out.2.2.1.below b1
            have hk := HP1.out.2.2.2.below b1
            exact ⟨p1.push hown' hgrow, app_below (HP1.out.2.1.trans (b1.mono HP1.out.2.1.size)) (HA.out _).1 (Nat.le_refl _) hgrow, hr.grown hgrow (row_typ p1.own hr (by decide)), hk.grown hgrow (row_typ p1.own hk (by decide))⟩
          clear hown' hgrow HA HP1 hi hz0 hz1 hz2 c0 c1
          have c1 : w4.cell? ⟨pb, 1, none⟩ = some v := H4.out.2.2.2.at2.2
          have f1 := H4.out.2.2.2.frozen 1
          have H5 : Hid (PlM w.heap.size (w4.setCell ⟨pb, 1, none⟩ (.slice (some ⟨g4, 0, none⟩) (R.length + 1) cap4)) (.slice (some ⟨g4, 0, none⟩) (R.length + 1) cap4) (us ++ [.slice none 0 0]) (rwO R (decide (n < nx + s))) ∧ Below w.heap.size w (w4.setCell ⟨pb, 1, none⟩ (.slice (some ⟨g4, 0, none⟩) (R.length + 1) cap4)) ∧ Bk (w4.setCell ⟨pb, 1, none⟩ (.slice (some ⟨g4, 0, none⟩) (R.length + 1) cap4)) rb #[.int .i64 0, .slice none 0 0] 58 ∧ Bk (w4.setCell ⟨pb, 1, none⟩ (.slice (some ⟨g4, 0, none⟩) (R.length + 1) cap4)) pb #[.int .i64 (n : Nat), .slice (some ⟨g4, 0, none⟩) (R.length + 1) cap4] 58) := by
            obtain ⟨a1, a2, a3, a4⟩ := H4.out
            rw [Hdf.out]
            refine ⟨a1.box a4 1 _, a2.setCell (p := ⟨pb, 1, none⟩) (by show w.heap.size ≤ pb; rw [Hpb.out]; omega) _, a3.other _ _ (by show pb ≠ rb; rw [Hpb.out, Hrb.out]; omega), a4.put 1 _⟩
          clear H4
          go_wp2_with fail
          go_meet
          exact ⟨_, _, by rw [Hx0.out]; rfl, H5⟩
        · have hf' : ¬ (n : Int) < (nx : Int) + s := by omega
          have HF : Hid ((nx : Nat) = ck.x ∧ PlM w.heap.size wx v us (rwO R (decide (n < nx + s)))) := by
            refine ⟨by rw [HX.out, if_neg hf], ?_⟩
            rw [decide_eq_false hf]
            exact HP1.out.1
          clear hf
          go_wp2_with fail
          go_meet
          exact ⟨v, us, by rw [HF.out.1], HF.out.2, HP1.out.2⟩
      case rest =>
        clear HP1 c0 c1 hw1 HWD HX
        obtain ⟨v2, us, hs6, HP2⟩ := hcut
        subst hs6
        generalize hQ : rwO R (decide (n < nx + s)) = Q at *
        obtain ⟨oa, cap, e1, _, hog⟩ := row_val HP2.out.1.own
        obtain ⟨og, e2, hol, _⟩ := hog HO6.out
        subst e2
        subst e1
        clear hog
        obtain ⟨m, hm⟩ : ∃ m, Q.length = m + 1 := ⟨Q.length - 1, by have := HO6.out; omega⟩
        have Hm : Hid (Q.length = m + 1) := hm
        clear hm
        obtain ⟨uu, hU⟩ : ∃ u, us[m]? = some u := ⟨_, List.getElem?_eq_getElem (by rw [HP2.out.1.len, Hm.out]; omega)⟩
        have hml : m < Q.length := by have := Hm.out; omega
        have HQm : Hid (Q.getD m [] = Q[m]) := by unfold Hid; rw [List.getD_eq_getElem?_getD, List.getElem?_eq_getElem hml]; rfl
        obtain ⟨qa, qc, e1, _, _⟩ := (HP2.out.1.ins m hml uu hU).ks encC
        rw [← HQm.out] at e1
        subst e1
        have HU : Hid (us[m]? = some (.slice qa (Q.getD m []).length qc)) := hU
        clear hU
        have HQl : Hid ((Q.getD m []).length ≤ 1024) := by
          unfold Hid
          rw [HQm.out]
          have hq : Q[m] ∈ rwO R (decide (n < nx + s)) := by rw [hQ]; exact List.getElem_mem hml
          unfold rwO at hq
          split at hq
          · rcases List.mem_append.1 hq with h | h
            · exact HRl.out.2 _ h
            · simp at h; rw [h]; simp
          · exact HRl.out.2 _ hq
        have hc3 : Hid ((Q.getD m []).length + 1 ≤ maxLen) := by have := HQl.out; unfold Hid maxLen; omega
        have hc4 : Hid (((Q.getD m []).length + 1) * 24 ≤ 140737488355328) := by have := HQl.out; unfold Hid; omega
        have hQb : Q.length ≤ 1025 := by
          rw [← hQ, rwO_len]
          have := HRl.out.1
          split <;> omega
        have hml2 : (m : Int) < (Q.length : Int) := by omega
        have hw2 : IntKind.i64.wrap ((Q.length : Int) - 1) = (m : Int) := by have := Hm.out; rw [IntKind.wrap_i64]; omega
        have hcx : ck.x ≤ 64 := by have := HNx.out.2; have := HX2.out; have := HX4.out; have := celX_le HN0.out (l.take (k + 1)) 0 0 (Nat.zero_le n); unfold nxt at *; simp at *; omega
        have hw3 : IntKind.i64.wrap ((ck.x : Int) + (s : Int)) = (ck.x : Int) + s := by rw [IntKind.wrap_i64]; omega
        have c1 : wc.cell? ⟨pb, 1, none⟩ = some (.slice (some ⟨og, 0, none⟩) Q.length cap) := HP2.out.2.2.2.at2.2
        have HNy : Hid (ptR (cel n l) (k + 1) = Q.set m (Q.getD m [] ++ [⟨k, ck.x, ck.x + s⟩]) ∧ nxt n l (k + 1) = ck.x + s) := by
          refine ⟨?_, HX4.out⟩
          rw [HNx.out.1]
          unfold rwA pcC
          rw [hQ, Hm.out, Nat.add_sub_cancel, HX2.out]
        have HP3 : Hid (Bk wc pb #[.int .i64 (n : Nat), .slice (some ⟨og, 0, none⟩) Q.length cap] 58 ∧ wc.ownsRow w.heap.size 88 1 (.slice (some ⟨og, 0, none⟩) Q.length cap) Q.length us ∧ PlM w.heap.size wc (.slice (some ⟨og, 0, none⟩) Q.length cap) us Q ∧ Below w.heap.size w wc ∧ Bk wc rb #[.int .i64 0, .slice none 0 0] 58) := ⟨HP2.out.2.2.2, HP2.out.1.own, HP2.out.1, HP2.out.2.1, HP2.out.2.2.1⟩
        clear HP2 HX2 HX4 HNx hQ HO6
        generalize hqq : Q.getD m [] = q at *
        clear hqq
        generalize hcc : ck.x = cx at *
        clear hcc
        go_upto_region 10 with fail
        clear c1
        refine wp_region_inv (I := (fun b a x => ∃ u42 u43 u44 u45 u46 u47 u48 u49 u50 u51 u52 u53 u54 u55 u56 u57 u58, a = ⟨#[.slice (some ⟨g, o, none⟩) l.length sc, .int .i64 col, undef, undef, .pointer (some ⟨rb, 0, none⟩), .pointer (some ⟨pb, 0, none⟩), .int .i64 (cx : Nat), .int .i64 (k : Nat), .int .i64 (s : Nat), .int .i64 (m : Nat), .int .i64 col, .int .i64 (n : Nat), .agg #[.int .i64 (n : Nat), .slice none 0 0], .pointer (some ⟨pb, 0, none⟩), .int .i64 (n : Nat), .slice (some ⟨g, o, none⟩) l.length sc, .int .i64 (l.length : Nat), .int .i64 (k : Nat), u18, u19, u20, u21, u22, u23, u24, u25, u26, u27, u28, u29, u30, u31, u32, u33, u34, u35, u36, u37, .pointer (some ⟨pb, 1, none⟩), .slice (some ⟨og, 0, none⟩) Q.length cap, .int .i64 (Q.length : Nat), .int .i64 (m : Nat), u42, u43, u44, u45, u46, u47, u48, u49, u50, u51, u52, u53, u54, u55, u56, u57, u58, u59, u60, u61, u62, undef], []⟩ ∧ Hid (JP1 w qa rb pb og cap qc m n k cx s us Q q b u42 u43 u44 u45 u46 u47 u48 u49 u50 u51 u52 u53 u54 u55 u56 u57 u58 x))) (by kernel_rfl) (by kernel_rfl) ?_ ?_ ?_
        · exact ⟨u42, u43, u44, u45, u46, u47, u48, u49, u50, u51, u52, u53, u54, u55, u56, u57, u58, rfl, ⟨(fun e => by cases e), (fun e => by cases e), (fun e => by cases e), (fun e => by cases e), (fun e => by cases e), (fun e => by cases e), (fun e => by cases e), (fun e => by cases e), (fun e => by cases e), (fun e => by cases e), (fun e => by cases e), (fun e => by cases e), (fun e => by cases e), (fun e => by cases e), (fun e => by cases e), (fun e => by cases e), (fun e => by cases e), (fun e => by cases e), HP3.out.1.drew, (fun _ => HP3.out.2.1), (fun _ => HP3.out.2.2.1.below (Below.refl _ _).drew), HP3.out.2.2.2.1.drew, HP3.out.2.2.2.2.drew⟩⟩
        · intro b a x i o hI hbi ho hpre K' hK
          obtain ⟨u42, u43, u44, u45, u46, u47, u48, u49, u50, u51, u52, u53, u54, u55, u56, u57, u58, rfl, HJ⟩ := hI
          have hi : i < 18 := by have := (Array.getElem?_eq_some_iff.1 ho).1; simpa using this
          rcases (show i = 0 ∨ i = 1 ∨ i = 2 ∨ i = 3 ∨ i = 4 ∨ i = 5 ∨ i = 6 ∨ i = 7 ∨ i = 8 ∨ i = 9 ∨ i = 10 ∨ i = 11 ∨ i = 12 ∨ i = 13 ∨ i = 14 ∨ i = 15 ∨ i = 16 ∨ i = 17 by omega) with rfl | rfl | rfl | rfl | rfl | rfl | rfl | rfl | rfl | rfl | rfl | rfl | rfl | rfl | rfl | rfl | rfl | rfl
          · injection (show some _ = some o from ho) with ho
            subst ho
            have HN : Hid (JP1 w qa rb pb og cap qc m n k cx s us Q q (fun j => if j = 0 then true else b j) (.pointer (some ⟨pb, 1, none⟩)) u43 u44 u45 u46 u47 u48 u49 u50 u51 u52 u53 u54 u55 u56 u57 u58 x) := by
              obtain ⟨j0, j1, j2, j3, j4, j5, j6, j7, j8, j9, j10, j11, j12, j13, j14, j15, j16, j17, e0, e1, e2, e3, e4⟩ := HJ.out
              exact ⟨fun _ => rfl, j1, j2, j3, j4, j5, j6, j7, j8, j9, j10, j11, j12, j13, j14, j15, j16, j17, e0, e1, e2, e3, e4⟩
            clear HJ hpre
            go_simp
            exact hK _ _ ⟨_, u43, u44, u45, u46, u47, u48, u49, u50, u51, u52, u53, u54, u55, u56, u57, u58, rfl, HN⟩
          · injection (show some _ = some o from ho) with ho
            subst ho
            have p0 : b 0 = true := hpre 0 (by decide +kernel)
            obtain rfl : u42 = .pointer (some ⟨pb, 1, none⟩) := by obtain ⟨j0, j1, j2, j3, j4, j5, j6, j7, j8, j9, j10, j11, j12, j13, j14, j15, j16, j17, e0, e1, e2, e3, e4⟩ := HJ.out; exact (j0 p0)
            have c1 : x.cell? ⟨pb, 1, none⟩ = some (.slice (some ⟨og, 0, none⟩) Q.length cap) := by obtain ⟨j0, j1, j2, j3, j4, j5, j6, j7, j8, j9, j10, j11, j12, j13, j14, j15, j16, j17, e0, e1, e2, e3, e4⟩ := HJ.out; exact e0.at2.2
            have HN : Hid (JP1 w qa rb pb og cap qc m n k cx s us Q q (fun j => if j = 1 then true else b j) (.pointer (some ⟨pb, 1, none⟩)) (.slice (some ⟨og, 0, none⟩) Q.length cap) u44 u45 u46 u47 u48 u49 u50 u51 u52 u53 u54 u55 u56 u57 u58 x) := by
              obtain ⟨j0, j1, j2, j3, j4, j5, j6, j7, j8, j9, j10, j11, j12, j13, j14, j15, j16, j17, e0, e1, e2, e3, e4⟩ := HJ.out
              exact ⟨j0, fun _ => rfl, j2, j3, j4, j5, j6, j7, j8, j9, j10, j11, j12, j13, j14, j15, j16, j17, e0, e1, e2, e3, e4⟩
            clear HJ hpre
            go_simp
            exact hK _ _ ⟨_, _, u44, u45, u46, u47, u48, u49, u50, u51, u52, u53, u54, u55, u56, u57, u58, rfl, HN⟩
          · injection (show some _ = some o from ho) with ho
            subst ho
            have HN : Hid (JP1 w qa rb pb og cap qc m n k cx s us Q q (fun j => if j = 2 then true else b j) u42 u43 (.int .i64 (m : Nat)) u45 u46 u47 u48 u49 u50 u51 u52 u53 u54 u55 u56 u57 u58 x) := by
              obtain ⟨j0, j1, j2, j3, j4, j5, j6, j7, j8, j9, j10, j11, j12, j13, j14, j15, j16, j17, e0, e1, e2, e3, e4⟩ := HJ.out
              exact ⟨j0, j1, fun _ => rfl, j3, j4, j5, j6, j7, j8, j9, j10, j11, j12, j13, j14, j15, j16, j17, e0, e1, e2, e3, e4⟩
            clear HJ hpre
            go_simp
            exact hK _ _ ⟨u42, u43, _, u45, u46, u47, u48, u49, u50, u51, u52, u53, u54, u55, u56, u57, u58, rfl, HN⟩
          · injection (show some _ = some o from ho) with ho
            subst ho
            have HN : Hid (JP1 w qa rb pb og cap qc m n k cx s us Q q (fun j => if j = 3 then true else b j) u42 u43 u44 (.pointer (some ⟨pb, 1, none⟩)) u46 u47 u48 u49 u50 u51 u52 u53 u54 u55 u56 u57 u58 x) := by
              obtain ⟨j0, j1, j2, j3, j4, j5, j6, j7, j8, j9, j10, j11, j12, j13, j14, j15, j16, j17, e0, e1, e2, e3, e4⟩ := HJ.out
              exact ⟨j0, j1, j2, fun _ => rfl, j4, j5, j6, j7, j8, j9, j10, j11, j12, j13, j14, j15, j16, j17, e0, e1, e2, e3, e4⟩
            clear HJ hpre
            go_simp
            exact hK _ _ ⟨u42, u43, u44, _, u46, u47, u48, u49, u50, u51, u52, u53, u54, u55, u56, u57, u58, rfl, HN⟩
          · injection (show some _ = some o from ho) with ho
            subst ho
            have p3 : b 3 = true := hpre 3 (by decide +kernel)
            obtain rfl : u45 = .pointer (some ⟨pb, 1, none⟩) := by obtain ⟨j0, j1, j2, j3, j4, j5, j6, j7, j8, j9, j10, j11, j12, j13, j14, j15, j16, j17, e0, e1, e2, e3, e4⟩ := HJ.out; exact (j3 p3)
            have c1 : x.cell? ⟨pb, 1, none⟩ = some (.slice (some ⟨og, 0, none⟩) Q.length cap) := by obtain ⟨j0, j1, j2, j3, j4, j5, j6, j7, j8, j9, j10, j11, j12, j13, j14, j15, j16, j17, e0, e1, e2, e3, e4⟩ := HJ.out; exact e0.at2.2
            have HN : Hid (JP1 w qa rb pb og cap qc m n k cx s us Q q (fun j => if j = 4 then true else b j) u42 u43 u44 (.pointer (some ⟨pb, 1, none⟩)) (.slice (some ⟨og, 0, none⟩) Q.length cap) u47 u48 u49 u50 u51 u52 u53 u54 u55 u56 u57 u58 x) := by
              obtain ⟨j0, j1, j2, j3, j4, j5, j6, j7, j8, j9, j10, j11, j12, j13, j14, j15, j16, j17, e0, e1, e2, e3, e4⟩ := HJ.out
              exact ⟨j0, j1, j2, j3, fun _ => rfl, j5, j6, j7, j8, j9, j10, j11, j12, j13, j14, j15, j16, j17, e0, e1, e2, e3, e4⟩
            clear HJ hpre
            go_simp
            exact hK _ _ ⟨u42, u43, u44, _, _, u47, u48, u49, u50, u51, u52, u53, u54, u55, u56, u57, u58, rfl, HN⟩
          · injection (show some _ = some o from ho) with ho
            subst ho
            have HN : Hid (JP1 w qa rb pb og cap qc m n k cx s us Q q (fun j => if j = 5 then true else b j) u42 u43 u44 u45 u46 (.int .i64 (m : Nat)) u48 u49 u50 u51 u52 u53 u54 u55 u56 u57 u58 x) := by
              obtain ⟨j0, j1, j2, j3, j4, j5, j6, j7, j8, j9, j10, j11, j12, j13, j14, j15, j16, j17, e0, e1, e2, e3, e4⟩ := HJ.out
              exact ⟨j0, j1, j2, j3, j4, fun _ => rfl, j6, j7, j8, j9, j10, j11, j12, j13, j14, j15, j16, j17, e0, e1, e2, e3, e4⟩
            clear HJ hpre
            go_simp
            exact hK _ _ ⟨u42, u43, u44, u45, u46, _, u48, u49, u50, u51, u52, u53, u54, u55, u56, u57, u58, rfl, HN⟩
          · injection (show some _ = some o from ho) with ho
            subst ho
            have p4 : b 4 = true := hpre 4 (by decide +kernel)
            obtain rfl : u46 = .slice (some ⟨og, 0, none⟩) Q.length cap := by obtain ⟨j0, j1, j2, j3, j4, j5, j6, j7, j8, j9, j10, j11, j12, j13, j14, j15, j16, j17, e0, e1, e2, e3, e4⟩ := HJ.out; exact (j4 p4)
            have p5 : b 5 = true := hpre 5 (by decide +kernel)
            obtain rfl : u47 = .int .i64 (m : Nat) := by obtain ⟨j0, j1, j2, j3, j4, j5, j6, j7, j8, j9, j10, j11, j12, j13, j14, j15, j16, j17, e0, e1, e2, e3, e4⟩ := HJ.out; exact (j5 p5)
            have HN : Hid (JP1 w qa rb pb og cap qc m n k cx s us Q q (fun j => if j = 6 then true else b j) u42 u43 u44 u45 (.slice (some ⟨og, 0, none⟩) Q.length cap) (.int .i64 (m : Nat)) (.pointer (some ⟨og, m, none⟩)) u49 u50 u51 u52 u53 u54 u55 u56 u57 u58 x) := by
              obtain ⟨j0, j1, j2, j3, j4, j5, j6, j7, j8, j9, j10, j11, j12, j13, j14, j15, j16, j17, e0, e1, e2, e3, e4⟩ := HJ.out
              exact ⟨j0, j1, j2, j3, j4, j5, fun _ => rfl, j7, j8, j9, j10, j11, j12, j13, j14, j15, j16, j17, e0, e1, e2, e3, e4⟩
            clear HJ hpre
            go_simp
            exact hK _ _ ⟨u42, u43, u44, u45, _, _, _, u49, u50, u51, u52, u53, u54, u55, u56, u57, u58, rfl, HN⟩
          · injection (show some _ = some o from ho) with ho
            subst ho
            have p6 : b 6 = true := hpre 6 (by decide +kernel)
            obtain rfl : u48 = .pointer (some ⟨og, m, none⟩) := by obtain ⟨j0, j1, j2, j3, j4, j5, j6, j7, j8, j9, j10, j11, j12, j13, j14, j15, j16, j17, e0, e1, e2, e3, e4⟩ := HJ.out; exact (j6 p6)
            have n17 : b 17 = false := by obtain ⟨j0, j1, j2, j3, j4, j5, j6, j7, j8, j9, j10, j11, j12, j13, j14, j15, j16, j17, e0, e1, e2, e3, e4⟩ := HJ.out; cases e : b 17 with | false => rfl | true => exact absurd (hbi.symm.trans (j17 e).2.2.1) (by decide)
            have c2 : x.cell? ⟨og, m, none⟩ = some (.slice qa q.length qc) := by obtain ⟨j0, j1, j2, j3, j4, j5, j6, j7, j8, j9, j10, j11, j12, j13, j14, j15, j16, j17, e0, e1, e2, e3, e4⟩ := HJ.out; rw [own_cell (e1 n17) m (by omega)]; exact HU.out
            have HN : Hid (JP1 w qa rb pb og cap qc m n k cx s us Q q (fun j => if j = 7 then true else b j) u42 u43 u44 u45 u46 u47 (.pointer (some ⟨og, m, none⟩)) (.slice qa q.length qc) u50 u51 u52 u53 u54 u55 u56 u57 u58 x) := by
              obtain ⟨j0, j1, j2, j3, j4, j5, j6, j7, j8, j9, j10, j11, j12, j13, j14, j15, j16, j17, e0, e1, e2, e3, e4⟩ := HJ.out
              exact ⟨j0, j1, j2, j3, j4, j5, j6, fun _ => rfl, j8, j9, j10, j11, j12, j13, j14, (fun h => absurd (hbi.symm.trans (j15 h).2.1) (by decide)), j16, (fun h => absurd (hbi.symm.trans (j17 h).2.2.1) (by decide)), e0, e1, e2, e3, e4⟩
            clear HJ hpre
            go_simp
            exact hK _ _ ⟨u42, u43, u44, u45, u46, u47, _, _, u50, u51, u52, u53, u54, u55, u56, u57, u58, rfl, HN⟩
          · injection (show some _ = some o from ho) with ho
            subst ho
            have HN : Hid (JP1 w qa rb pb og cap qc m n k cx s us Q q (fun j => if j = 8 then true else b j) u42 u43 u44 u45 u46 u47 u48 u49 (.int .i64 (k : Nat)) u51 u52 u53 u54 u55 u56 u57 u58 x) := by
              obtain ⟨j0, j1, j2, j3, j4, j5, j6, j7, j8, j9, j10, j11, j12, j13, j14, j15, j16, j17, e0, e1, e2, e3, e4⟩ := HJ.out
              exact ⟨j0, j1, j2, j3, j4, j5, j6, j7, fun _ => rfl, j9, j10, j11, j12, j13, j14, j15, j16, j17, e0, e1, e2, e3, e4⟩
            clear HJ hpre
            go_simp
            exact hK _ _ ⟨u42, u43, u44, u45, u46, u47, u48, u49, _, u51, u52, u53, u54, u55, u56, u57, u58, rfl, HN⟩
          · injection (show some _ = some o from ho) with ho
            subst ho
            have HN : Hid (JP1 w qa rb pb og cap qc m n k cx s us Q q (fun j => if j = 9 then true else b j) u42 u43 u44 u45 u46 u47 u48 u49 u50 (.int .i64 (cx : Nat)) u52 u53 u54 u55 u56 u57 u58 x) := by
              obtain ⟨j0, j1, j2, j3, j4, j5, j6, j7, j8, j9, j10, j11, j12, j13, j14, j15, j16, j17, e0, e1, e2, e3, e4⟩ := HJ.out
              exact ⟨j0, j1, j2, j3, j4, j5, j6, j7, j8, fun _ => rfl, j10, j11, j12, j13, j14, j15, j16, j17, e0, e1, e2, e3, e4⟩
            clear HJ hpre
            go_simp
            exact hK _ _ ⟨u42, u43, u44, u45, u46, u47, u48, u49, u50, _, u52, u53, u54, u55, u56, u57, u58, rfl, HN⟩
          · injection (show some _ = some o from ho) with ho
            subst ho
            have HN : Hid (JP1 w qa rb pb og cap qc m n k cx s us Q q (fun j => if j = 10 then true else b j) u42 u43 u44 u45 u46 u47 u48 u49 u50 u51 (.int .i64 (cx : Nat)) u53 u54 u55 u56 u57 u58 x) := by
              obtain ⟨j0, j1, j2, j3, j4, j5, j6, j7, j8, j9, j10, j11, j12, j13, j14, j15, j16, j17, e0, e1, e2, e3, e4⟩ := HJ.out
              exact ⟨j0, j1, j2, j3, j4, j5, j6, j7, j8, j9, fun _ => rfl, j11, j12, j13, j14, j15, j16, j17, e0, e1, e2, e3, e4⟩
            clear HJ hpre
            go_simp
            exact hK _ _ ⟨u42, u43, u44, u45, u46, u47, u48, u49, u50, u51, _, u53, u54, u55, u56, u57, u58, rfl, HN⟩
          · injection (show some _ = some o from ho) with ho
            subst ho
            have HN : Hid (JP1 w qa rb pb og cap qc m n k cx s us Q q (fun j => if j = 11 then true else b j) u42 u43 u44 u45 u46 u47 u48 u49 u50 u51 u52 (.int .i64 (s : Nat)) u54 u55 u56 u57 u58 x) := by
              obtain ⟨j0, j1, j2, j3, j4, j5, j6, j7, j8, j9, j10, j11, j12, j13, j14, j15, j16, j17, e0, e1, e2, e3, e4⟩ := HJ.out
              exact ⟨j0, j1, j2, j3, j4, j5, j6, j7, j8, j9, j10, fun _ => rfl, j12, j13, j14, j15, j16, j17, e0, e1, e2, e3, e4⟩
            clear HJ hpre
            go_simp
            exact hK _ _ ⟨u42, u43, u44, u45, u46, u47, u48, u49, u50, u51, u52, _, u54, u55, u56, u57, u58, rfl, HN⟩
          · injection (show some _ = some o from ho) with ho
            subst ho
            have p10 : b 10 = true := hpre 10 (by decide +kernel)
            obtain rfl : u52 = .int .i64 (cx : Nat) := by obtain ⟨j0, j1, j2, j3, j4, j5, j6, j7, j8, j9, j10, j11, j12, j13, j14, j15, j16, j17, e0, e1, e2, e3, e4⟩ := HJ.out; exact (j10 p10)
            have p11 : b 11 = true := hpre 11 (by decide +kernel)
            obtain rfl : u53 = .int .i64 (s : Nat) := by obtain ⟨j0, j1, j2, j3, j4, j5, j6, j7, j8, j9, j10, j11, j12, j13, j14, j15, j16, j17, e0, e1, e2, e3, e4⟩ := HJ.out; exact (j11 p11)
            have HN : Hid (JP1 w qa rb pb og cap qc m n k cx s us Q q (fun j => if j = 12 then true else b j) u42 u43 u44 u45 u46 u47 u48 u49 u50 u51 (.int .i64 (cx : Nat)) (.int .i64 (s : Nat)) (.int .i64 ((cx : Int) + (s : Int))) u55 u56 u57 u58 x) := by
              obtain ⟨j0, j1, j2, j3, j4, j5, j6, j7, j8, j9, j10, j11, j12, j13, j14, j15, j16, j17, e0, e1, e2, e3, e4⟩ := HJ.out
              exact ⟨j0, j1, j2, j3, j4, j5, j6, j7, j8, j9, j10, j11, fun _ => rfl, j13, j14, j15, j16, j17, e0, e1, e2, e3, e4⟩
            clear HJ hpre
            go_simp
            exact hK _ _ ⟨u42, u43, u44, u45, u46, u47, u48, u49, u50, u51, _, _, _, u55, u56, u57, u58, rfl, HN⟩
          · injection (show some _ = some o from ho) with ho
            subst ho
            have p8 : b 8 = true := hpre 8 (by decide +kernel)
            obtain rfl : u50 = .int .i64 (k : Nat) := by obtain ⟨j0, j1, j2, j3, j4, j5, j6, j7, j8, j9, j10, j11, j12, j13, j14, j15, j16, j17, e0, e1, e2, e3, e4⟩ := HJ.out; exact (j8 p8)
            have p9 : b 9 = true := hpre 9 (by decide +kernel)
            obtain rfl : u51 = .int .i64 (cx : Nat) := by obtain ⟨j0, j1, j2, j3, j4, j5, j6, j7, j8, j9, j10, j11, j12, j13, j14, j15, j16, j17, e0, e1, e2, e3, e4⟩ := HJ.out; exact (j9 p9)
            have p12 : b 12 = true := hpre 12 (by decide +kernel)
            obtain rfl : u54 = .int .i64 ((cx : Int) + (s : Int)) := by obtain ⟨j0, j1, j2, j3, j4, j5, j6, j7, j8, j9, j10, j11, j12, j13, j14, j15, j16, j17, e0, e1, e2, e3, e4⟩ := HJ.out; exact (j12 p12)
            have HN : Hid (JP1 w qa rb pb og cap qc m n k cx s us Q q (fun j => if j = 13 then true else b j) u42 u43 u44 u45 u46 u47 u48 u49 (.int .i64 (k : Nat)) (.int .i64 (cx : Nat)) u52 u53 (.int .i64 ((cx : Int) + (s : Int))) (.agg #[.int .i64 (k : Nat), .int .i64 (cx : Nat), .int .i64 ((cx : Int) + (s : Int))]) u56 u57 u58 x) := by
              obtain ⟨j0, j1, j2, j3, j4, j5, j6, j7, j8, j9, j10, j11, j12, j13, j14, j15, j16, j17, e0, e1, e2, e3, e4⟩ := HJ.out
              exact ⟨j0, j1, j2, j3, j4, j5, j6, j7, j8, j9, j10, j11, j12, fun _ => rfl, j14, j15, j16, j17, e0, e1, e2, e3, e4⟩
            clear HJ hpre
            go_simp
            exact hK _ _ ⟨u42, u43, u44, u45, u46, u47, u48, u49, _, _, u52, u53, _, _, u56, u57, u58, rfl, HN⟩
          · injection (show some _ = some o from ho) with ho
            subst ho
            have p13 : b 13 = true := hpre 13 (by decide +kernel)
            obtain rfl : u55 = .agg #[.int .i64 (k : Nat), .int .i64 (cx : Nat), .int .i64 ((cx : Int) + (s : Int))] := by obtain ⟨j0, j1, j2, j3, j4, j5, j6, j7, j8, j9, j10, j11, j12, j13, j14, j15, j16, j17, e0, e1, e2, e3, e4⟩ := HJ.out; exact (j13 p13)
            have n15 : b 15 = false := by obtain ⟨j0, j1, j2, j3, j4, j5, j6, j7, j8, j9, j10, j11, j12, j13, j14, j15, j16, j17, e0, e1, e2, e3, e4⟩ := HJ.out; cases e : b 15 with | false => rfl | true => exact absurd (hbi.symm.trans (j15 e).1) (by decide)
            have al : Below x.heap.size x (x.alloc (.cells #[.int .i64 (k : Nat), .int .i64 (cx : Nat), .int .i64 ((cx : Int) + (s : Int))] 68)) := (Below.refl _ _).alloc (Nat.le_refl _) _
            have HN : Hid (JP1 w qa rb pb og cap qc m n k cx s us Q q (fun j => if j = 14 then true else b j) u42 u43 u44 u45 u46 u47 u48 u49 u50 u51 u52 u53 u54 (.agg #[.int .i64 (k : Nat), .int .i64 (cx : Nat), .int .i64 ((cx : Int) + (s : Int))]) (.slice (some ⟨x.heap.size, 0, none⟩) 1 1) u57 u58 (x.alloc (.cells #[.int .i64 (k : Nat), .int .i64 (cx : Nat), .int .i64 ((cx : Int) + (s : Int))] 68))) := by
              obtain ⟨j0, j1, j2, j3, j4, j5, j6, j7, j8, j9, j10, j11, j12, j13, j14, j15, j16, j17, e0, e1, e2, e3, e4⟩ := HJ.out
              exact ⟨j0, j1, j2, j3, j4, j5, j6, j7, j8, j9, j10, j11, j12, j13, fun _ => ⟨x.heap.size, rfl, fun _ => Bk.new _ _ _⟩, fun h => absurd (n15.symm.trans h) (by decide), j16, fun h => absurd (n15.symm.trans (j17 h).1) (by decide), e0.alloc _, fun h => row_below (e1 h) al, fun h => (e2 h).below al, e3.alloc e3.size _, e4.alloc _⟩
            clear HJ hpre al n15
            go_simp
            exact hK _ _ ⟨u42, u43, u44, u45, u46, u47, u48, u49, u50, u51, u52, u53, u54, _, _, u57, u58, rfl, HN⟩
          · injection (show some _ = some o from ho) with ho
            subst ho
            have p7 : b 7 = true := hpre 7 (by decide +kernel)
            obtain rfl : u49 = .slice qa q.length qc := by obtain ⟨j0, j1, j2, j3, j4, j5, j6, j7, j8, j9, j10, j11, j12, j13, j14, j15, j16, j17, e0, e1, e2, e3, e4⟩ := HJ.out; exact (j7 p7)
            have p14 : b 14 = true := hpre 14 (by decide +kernel)
            obtain ⟨gb, rfl, hgb⟩ : ∃ g, u56 = .slice (some ⟨g, 0, none⟩) 1 1 ∧ Bk x g #[.int .i64 (k : Nat), .int .i64 (cx : Nat), .int .i64 ((cx : Int) + (s : Int))] 68 := by obtain ⟨j0, j1, j2, j3, j4, j5, j6, j7, j8, j9, j10, j11, j12, j13, j14, j15, j16, j17, e0, e1, e2, e3, e4⟩ := HJ.out; obtain ⟨g, e, h⟩ := j14 p14; exact ⟨g, e, h hbi⟩
            have hp : PlM w.heap.size x (.slice (some ⟨og, 0, none⟩) Q.length cap) us Q := by obtain ⟨j0, j1, j2, j3, j4, j5, j6, j7, j8, j9, j10, j11, j12, j13, j14, j15, j16, j17, e0, e1, e2, e3, e4⟩ := HJ.out; exact e2 hbi
            have hin : OwK 68 3 fC w.heap.size x (.slice qa q.length qc) q := by have := hp.ins m hml _ HU.out; rwa [← HQm.out] at this
            have hsz : w.heap.size ≤ x.heap.size := by obtain ⟨j0, j1, j2, j3, j4, j5, j6, j7, j8, j9, j10, j11, j12, j13, j14, j15, j16, j17, e0, e1, e2, e3, e4⟩ := HJ.out; exact e3.size
            obtain ⟨ki, kz0, kz1, kz2⟩ := HJ0.out
            refine step_append_lies x (by rfl) _ _ 88 (by rfl) w.heap.size 68 j0 (.agg #[.int .i64 0, .int .i64 0, .int .i64 0]) 3 24 Tryz.underlying88 ki kz0 kz1 kz2 rfl (by decide) (.slice qa q.length qc) q.length (flatK fC q) (by rfl) hin ⟨gb, 0, none⟩ 1 1 [.int .i64 (k : Nat), .int .i64 (cx : Nat), .int .i64 ((cx : Int) + (s : Int))] (by rfl) rfl (cell_bk3Y hgb) (one3Y _ _ _) (by decide) hc3.out hc4.out hsz x.heap.size rfl ?_
            intro g4 c4 x4 hown hgrow hlies _
            have hown2 : x4.ownsRow w.heap.size 68 3 (.slice (some ⟨g4, 0, none⟩) (q.length + 1) c4) (Q[m].length + 1) (flatK fC Q[m] ++ flatI (fC ⟨k, cx, cx + s⟩)) := by rw [← HQm.out]; exact hown
            have hG := PlM.grow (c := ⟨k, cx, cx + s⟩) hml hp HU.out hown2 hgrow rfl hlies
            rw [← HQm.out] at hG
            have HN : Hid (JP1 w qa rb pb og cap qc m n k cx s us Q q (fun j => if j = 15 then true else b j) u42 u43 u44 u45 u46 u47 u48 (.slice qa q.length qc) u50 u51 u52 u53 u54 u55 (.slice (some ⟨gb, 0, none⟩) 1 1) (.slice (some ⟨g4, 0, none⟩) (q.length + 1) c4) u58 x4) := by
              obtain ⟨j0, j1, j2, j3, j4, j5, j6, j7, j8, j9, j10, j11, j12, j13, j14, j15, j16, j17, e0, e1, e2, e3, e4⟩ := HJ.out
              exact ⟨j0, j1, j2, j3, j4, j5, j6, j7, j8, j9, j10, j11, j12, j13, (fun _ => ⟨gb, rfl, fun h => by cases h⟩), fun _ => ⟨p14, p7, g4, c4, rfl, fun _ => hG.2⟩, j16, fun h => absurd (hbi.symm.trans (j17 h).1) (by decide), e0.grown hgrow (row_typ hin e0 (by decide)), (fun _ => hG.1), (fun h => by cases h), app_below e3 hin (Nat.le_refl _) hgrow, e4.grown hgrow (row_typ hin e4 (by decide))⟩
            clear HJ hpre hp hin hown hown2 hgrow hlies hG hgb hsz ki kz0 kz1 kz2
            go_simp
            exact hK _ _ ⟨u42, u43, u44, u45, u46, u47, u48, _, u50, u51, u52, u53, u54, u55, _, _, u58, rfl, HN⟩
          · injection (show some _ = some o from ho) with ho
            subst ho
            have p1 : b 1 = true := hpre 1 (by decide +kernel)
            obtain rfl : u43 = .slice (some ⟨og, 0, none⟩) Q.length cap := by obtain ⟨j0, j1, j2, j3, j4, j5, j6, j7, j8, j9, j10, j11, j12, j13, j14, j15, j16, j17, e0, e1, e2, e3, e4⟩ := HJ.out; exact (j1 p1)
            have p2 : b 2 = true := hpre 2 (by decide +kernel)
            obtain rfl : u44 = .int .i64 (m : Nat) := by obtain ⟨j0, j1, j2, j3, j4, j5, j6, j7, j8, j9, j10, j11, j12, j13, j14, j15, j16, j17, e0, e1, e2, e3, e4⟩ := HJ.out; exact (j2 p2)
            have HN : Hid (JP1 w qa rb pb og cap qc m n k cx s us Q q (fun j => if j = 16 then true else b j) u42 (.slice (some ⟨og, 0, none⟩) Q.length cap) (.int .i64 (m : Nat)) u45 u46 u47 u48 u49 u50 u51 u52 u53 u54 u55 u56 u57 (.pointer (some ⟨og, m, none⟩)) x) := by
              obtain ⟨j0, j1, j2, j3, j4, j5, j6, j7, j8, j9, j10, j11, j12, j13, j14, j15, j16, j17, e0, e1, e2, e3, e4⟩ := HJ.out
              exact ⟨j0, j1, j2, j3, j4, j5, j6, j7, j8, j9, j10, j11, j12, j13, j14, j15, fun _ => rfl, j17, e0, e1, e2, e3, e4⟩
            clear HJ hpre
            go_simp
            exact hK _ _ ⟨u42, _, _, u45, u46, u47, u48, u49, u50, u51, u52, u53, u54, u55, u56, u57, _, rfl, HN⟩
          · injection (show some _ = some o from ho) with ho
            subst ho
            have p16 : b 16 = true := hpre 16 (by decide +kernel)
            obtain rfl : u58 = .pointer (some ⟨og, m, none⟩) := by obtain ⟨j0, j1, j2, j3, j4, j5, j6, j7, j8, j9, j10, j11, j12, j13, j14, j15, j16, j17, e0, e1, e2, e3, e4⟩ := HJ.out; exact (j16 p16)
            have p15 : b 15 = true := hpre 15 (by decide +kernel)
            obtain ⟨g4, c4, rfl, hpl⟩ : ∃ g c, u57 = .slice (some ⟨g, 0, none⟩) (q.length + 1) c ∧ PlM w.heap.size (x.setCell ⟨og, m, none⟩ u57) (.slice (some ⟨og, 0, none⟩) Q.length cap) (us.set m u57) (Q.set m (q ++ [⟨k, cx, cx + s⟩])) := by obtain ⟨j0, j1, j2, j3, j4, j5, j6, j7, j8, j9, j10, j11, j12, j13, j14, j15, j16, j17, e0, e1, e2, e3, e4⟩ := HJ.out; obtain ⟨_, _, g, c, e, h⟩ := j15 p15; exact ⟨g, c, e, h hbi⟩
            have ho : x.ownsRow w.heap.size 88 1 (.slice (some ⟨og, 0, none⟩) Q.length cap) Q.length us := by obtain ⟨j0, j1, j2, j3, j4, j5, j6, j7, j8, j9, j10, j11, j12, j13, j14, j15, j16, j17, e0, e1, e2, e3, e4⟩ := HJ.out; exact e1 hbi
            have c2 : x.cell? ⟨og, m, none⟩ = some (.slice qa q.length qc) := by rw [own_cell ho m (by omega)]; exact HU.out
            have f2 := own_frozen ho m
            have HN : Hid (JP1 w qa rb pb og cap qc m n k cx s us Q q (fun j => if j = 17 then true else b j) u42 u43 u44 u45 u46 u47 u48 u49 u50 u51 u52 u53 u54 u55 u56 (.slice (some ⟨g4, 0, none⟩) (q.length + 1) c4) (.pointer (some ⟨og, m, none⟩)) (x.setCell ⟨og, m, none⟩ (.slice (some ⟨g4, 0, none⟩) (q.length + 1) c4))) := by
              obtain ⟨j0, j1, j2, j3, j4, j5, j6, j7, j8, j9, j10, j11, j12, j13, j14, j15, j16, j17, e0, e1, e2, e3, e4⟩ := HJ.out
              exact ⟨j0, j1, j2, j3, j4, j5, j6, j7, j8, j9, j10, j11, j12, j13, (fun h => (j14 h).imp fun _ k => ⟨k.1, fun c => absurd (p15.symm.trans c) (by decide)⟩), (fun h => ⟨(j15 p15).1, (j15 p15).2.1, g4, c4, rfl, fun c => by cases c⟩), j16, (fun _ => ⟨p15, (j15 p15).1, (j15 p15).2.1, _, hpl⟩), e0.other _ _ (fun e => row_typ ho e0 (by decide) (congrArg some e)), (fun c => by cases c), (fun c => absurd (p15.symm.trans c) (by decide)), e3.setCell (p := ⟨og, m, none⟩) hol _, e4.other _ _ (fun e => row_typ ho e4 (by decide) (congrArg some e))⟩
            clear HJ hpre hpl ho
            go_simp
            exact hK _ _ ⟨u42, u43, u44, u45, u46, u47, u48, u49, u50, u51, u52, u53, u54, u55, u56, _, _, rfl, HN⟩
        · intro b a x hI hall
          obtain ⟨u42, u43, u44, u45, u46, u47, u48, u49, u50, u51, u52, u53, u54, u55, u56, u57, u58, rfl, HJ⟩ := hI
          have hall' : ∀ i, i < 18 → b i = true := fun i hi => hall i (by simpa using hi)
          have HF : Hid (∃ v us, PlM w.heap.size x v us (ptR (cel n l) (k + 1)) ∧ Below w.heap.size w x ∧ Bk x rb #[.int .i64 0, .slice none 0 0] 58 ∧ Bk x pb #[.int .i64 (n : Nat), v] 58) := by
            obtain ⟨j0, j1, j2, j3, j4, j5, j6, j7, j8, j9, j10, j11, j12, j13, j14, j15, j16, j17, e0, e1, e2, e3, e4⟩ := HJ.out
            obtain ⟨_, _, _, us', h⟩ := j17 (hall' 17 (by omega))
            rw [HNy.out.1]
            exact ⟨_, us', h, e3, e4, e0⟩
          clear HJ hall hall' HP3
          have Hn : Hid ((cx : Int) + (s : Int) = ((nxt n l (k + 1) : Nat) : Int)) := by unfold Hid; rw [HNy.out.2]; simp
          go_wp2
          exact ⟨⟨k + 1, by omega, by go_num, by rw [Hn.out], HF⟩, by simp [intOf]; omega⟩
    · obtain rfl : k = l.length := by omega
      obtain ⟨v, us, hp, hb, hr, hbk⟩ := HK.out
      obtain ⟨oa, cap, e1, _, _⟩ := row_val hp.own
      subst e1
      generalize (ptR (cel n l) l.length).length = rl at *
      have c0 := hbk.at2.1
      have c1 := hbk.at2.2
      have r0 := hr.at2.1
      have r1 := hr.at2.2
      have f0 := hr.frozen 0
      have f1 := hr.frozen 1
      have HF : Hid (PlM w.heap.size ((wr.setCell ⟨rb, 0, none⟩ (.int .i64 (n : Nat))).setCell ⟨rb, 1, none⟩ (.slice oa rl cap)) (.slice oa rl cap) us (ptR (cel n l) l.length) ∧ Below w.heap.size w ((wr.setCell ⟨rb, 0, none⟩ (.int .i64 (n : Nat))).setCell ⟨rb, 1, none⟩ (.slice oa rl cap))) := by
        have hlo : w.heap.size ≤ rb := by rw [Hrb.out]; exact Nat.le_refl _
        exact ⟨(hp.box hr 0 _).box (hr.put 0 _) 1 _, (hb.setCell (p := ⟨rb, 0, none⟩) hlo _).setCell (p := ⟨rb, 1, none⟩) hlo _⟩
      clear HK hp hb hr hbk
      go_wp2
      exact bodyPost_ret (v := .agg #[.int .i64 (n : Nat), .slice oa rl cap]) (by simp [results, Tryz.results24, go_sem, r0, r1]) rfl ⟨_, _, rfl, HF⟩

end Go.Proofs.YthnhcphkpffkfaaGreat
