/-
  Texts of this claim, one behind the other: what each is about stands ahead of it.
-/
import Derived.Test.YtapachlhdgehjaaGreatDoorK7
import Derived.Test.YtapachlhdgehjaaGreatDoorK48
import Derived.Test.YtapachlhdgehjaaGreatDoorK22
import Derived.Test.YtapachlhdgehjaaGreatDoorK8
/-
  Package cells: appendUnlike: the pieces in which two rows are unlike.
-/
namespace Go.Proofs.YtapachlhdgehjaaGreatDoor
open Go.RowKit

structure Ru where
  x : Int
  y : Int
  cs : List Ce
def flatU : List (Ru × Value) → List Value
  | [] => []
  | p :: t => [.int .i64 p.1.x, .int .i64 p.1.y, p.2] ++ flatU t
theorem flatU_app (l m : List (Ru × Value)) : flatU (l ++ m) = flatU l ++ flatU m := by
  induction l with
  | nil => rfl
  | cons p t ih => show _ ++ flatU (t ++ m) = (_ ++ flatU t) ++ flatU m; rw [ih, List.append_assoc]
theorem info_run : (Tryz.prog.info? 63).map (fun i => (i.zero, i.size, i.bytes)) = some (some (.agg #[.int .i64 0, .int .i64 0, .slice none 0 0]), 3, 40) := by kernel_rfl
theorem own_typ2 {lo lo' : Nat} {w : World} {v v' : Value} {e e' : TypeId} {k k' n n' : Nat} {xs xs' : List Value} (h : w.ownsRow lo e k v n xs) (h' : w.ownsRow lo' e' k' v' n' xs') (ht : e ≠ e') : v.ownBlock = none ∨ v.ownBlock ≠ v'.ownBlock := by
  rcases h.2 with ⟨rfl, _⟩ | ⟨g, cap, cur, rfl, hb, hc, _⟩
  · exact .inl rfl
  · right
    intro he
    rcases h'.2 with ⟨rfl, _⟩ | ⟨g', cap', cur', rfl, hb', hc', _⟩
    · cases he
    · injection he with he
      subst he
      rw [hc] at hc'
      injection hc' with hc'
      injection hc' with _ e2 _
      exact ht e2

def toU (d : Nat → Bool) : Nat → Nat → Nat
  | 0, i => i
  | f + 1, i => if d i = true then toU d f (i + 1) else i
def unlF (d : Nat → Bool) (n : Nat) : Nat → Nat → List (Nat × Nat)
  | 0, _ => []
  | f + 1, i => if i < n then (if i < toU d (n - i) i then [(i, toU d (n - i) i)] else []) ++ unlF d n f (toU d (n - i) i + 1) else []
theorem toU_at (d : Nat → Bool) (n : Nat) : ∀ (f k m : Nat), f = n - k → k ≤ m → m ≤ n → (∀ i, k ≤ i → i < m → d i = true) → (m < n → d m = false) → toU d f k = m
  | 0, k, m, hf, h1, h2, _, _ => by
    unfold toU
    omega
  | f + 1, k, m, hf, h1, h2, h3, h4 => by
    unfold toU
    by_cases e : k = m
    · subst e
      rw [h4 (by omega), if_neg (by simp)]
    · rw [h3 k (Nat.le_refl _) (by omega), if_pos rfl]
      exact toU_at d n f (k + 1) m (by omega) (by omega) h2 (fun i hi => h3 i (by omega)) h4
def unD (la lb : List Ce) (k : Nat) : Bool := !eqC (la.getD k ceZ) (lb.getD k ceZ)
def unR (lb : List Ce) (y : Int) (p : Nat × Nat) : Ru := ⟨p.1, y, (lb.drop p.1).take (p.2 - p.1)⟩
def unL (la lb : List Ce) (y : Int) : List Ru := (unlF (unD la lb) la.length (la.length + 1) 0).map (unR lb y)

theorem lsC_sub {w : World} {g o n cap k m N : Nat} {l : List Ce} (h : LsC w (.slice (some ⟨g, o, none⟩) n cap) l) (hn : n = l.length) (hk : k ≤ m) (hm : m ≤ n) (hN : N = m - k) : LsC w (.slice (some ⟨g, o + k * 11, none⟩) N (cap - k)) ((l.drop k).take (m - k)) := by
  obtain ⟨oa, c, e, hc, hg⟩ := h
  injection e with e1 e2 e3
  subst e3
  have hl : ((l.drop k).take (m - k)).length = m - k := by simp; omega
  refine ⟨some ⟨g, o + k * 11, none⟩, cap - k, by rw [hl, hN], by rw [hl]; omega, fun hp => ?_⟩
  rw [hl] at hp
  obtain ⟨g', o', e4, hlt, hat⟩ := hg (by omega)
  rw [← e1] at e4
  injection e4 with e4
  injection e4 with e5 e6
  subst e5 e6
  refine ⟨g, o + k * 11, rfl, hlt, fun i hi => ?_⟩
  rw [hl] at hi
  have := hat (k + i) (by omega)
  rw [show o + (k + i) * 11 = o + k * 11 + i * 11 by omega] at this
  simpa using this

theorem cell_three (W : World) (a b c : Value) (t : TypeId) : ∀ (j : Nat) (u : Value), [a, b, c][j]? = some u → (W.alloc (.cells #[a, b, c] t)).cell? ((⟨W.heap.size, 0, none⟩ : Addr).add j) = some u := by
  intro j u hj
  have k := Bk.new W #[a, b, c] t
  match j, hj with
  | 0, hj => simp at hj; subst hj; exact (k.cell 0)
  | 1, hj => simp at hj; subst hj; exact (k.cell 1)
  | 2, hj => simp at hj; subst hj; exact (k.cell 2)
theorem one_three (k y : Int) (a : Option Addr) (n c : Nat) : ∀ u ∈ [Value.int .i64 k, Value.int .i64 y, Value.slice a n c], u.oneCell' = true := by
  intro u hu
  simp only [List.mem_cons, List.not_mem_nil, or_false] at hu
  rcases hu with rfl | rfl | rfl <;> rfl
structure UnM (w0 : World) (R : List (Ru × Value)) (u : Value) (w : World) : Prop where
  o : w.ownsRow w0.heap.size 63 3 u R.length (flatU R)
  c : ∀ p ∈ R, OwC w0.heap.size w p.2 p.1.cs
  b : Below w0.heap.size w0 w
theorem UnM.below {w0 : World} {R : List (Ru × Value)} {u : Value} {w W : World} (h : UnM w0 R u w) (hb : Below w.heap.size w W) : UnM w0 R u W :=
  ⟨row_below h.o hb, fun p hp => row_below (h.c p hp) hb, h.b.trans (hb.mono h.b.size)⟩
theorem UnM.snoc {w0 : World} {R : List (Ru × Value)} {u : Value} {w W W4 : World} (h : UnM w0 R u w) (hb : Below w.heap.size w W) (q : Ru) (x u' : Value) (hx : OwC w0.heap.size W x q.cs) {n : Nat} (hn : n = R.length) (h4 : W4.ownsRow w0.heap.size 63 3 u' (n + 1) (flatU R ++ [.int .i64 q.x, .int .i64 q.y, x])) (hg : W.grownBy W4 u.ownBlock) : UnM w0 (R ++ [(q, x)]) u' W4 := by
  have hW := h.below hb
  refine ⟨?_, fun p hp => ?_, hW.b.grown hg hW.b.size (fun g hg => (row_lt hW.o g hg).1)⟩
  · rw [List.length_append, List.length_singleton, ← hn, flatU_app]
    exact h4
  · rcases List.mem_append.1 hp with hp | hp
    · exact World.ownsRow.kept (hW.c p hp) hg (own_typ2 (hW.c p hp) hW.o (by decide))
    · rw [List.mem_singleton] at hp
      subst hp
      exact World.ownsRow.kept hx hg (own_typ2 hx hW.o (by decide))

set_option maxRecDepth 20000 in
set_option maxHeartbeats 8000000 in
theorem unl_any (w0 : World) (R0 : List (Ru × Value)) (u0 : Value) (la lb : List Ce) (va vb : Value) (y : Int) (w : World) (hu : UnM w0 R0 u0 w) (ha : LsC w0 va la) (hb : LsC w0 vb lb) (hl : la.length = lb.length) (h3 : la.length ≤ 20000) (hR : R0.length ≤ 600000) :
    Calls Tryz.prog 49 #[u0, va, vb, .int .i64 y] w fun e w' => ∃ u' R', e = .returned u' ∧ Hid (UnM w0 R' u' w' ∧ R'.map Prod.fst = R0.map Prod.fst ++ unL la lb y ∧ R'.length ≤ R0.length + la.length) := by
  obtain ⟨i0, hi, hz0, hz1, hz2⟩ := info_parts info_run
  obtain ⟨oa, ca, rfl, hca, hga⟩ := id ha
  obtain ⟨ob, cb, rfl, hcb, hgb⟩ := id hb
  have HB : Hid (LsC w0 (.slice ob lb.length cb) lb) := hb
  obtain ⟨n, hn⟩ : ∃ n, n = la.length := ⟨_, rfl⟩
  have HGa : Hid (0 < n → ∃ g o, oa = some ⟨g, o, none⟩ ∧ g < w0.heap.size ∧ ∀ i (_ : i < n), CeAt w0 g (o + i * 11) (la.getD i ceZ)) := fun h => by
    obtain ⟨g, o, e, hg, hat⟩ := hga (by omega)
    exact ⟨g, o, e, hg, fun i hi => by have hi2 : i < la.length := by omega
                                       have := hat i hi2
                                       simpa [List.getD, hi2] using this⟩
  have HGb : Hid (0 < n → ∃ g o, ob = some ⟨g, o, none⟩ ∧ g < w0.heap.size ∧ ∀ i (_ : i < n), CeAt w0 g (o + i * 11) (lb.getD i ceZ)) := fun h => by
    obtain ⟨g, o, e, hg, hat⟩ := hgb (by omega)
    exact ⟨g, o, e, hg, fun i hi => by have hi2 : i < lb.length := by omega
                                       have := hat i hi2
                                       simpa [List.getD, hi2] using this⟩
  have HT : Hid (R0.map Prod.fst ++ unL la lb y = R0.map Prod.fst ++ (unlF (unD la lb) n (n + 1) 0).map (unR lb y)) := by unfold Hid unL; rw [hn]
  have hnb : n = lb.length := by omega
  obtain ⟨T, hT⟩ : ∃ T, T = R0.map Prod.fst ++ unL la lb y := ⟨_, rfl⟩
  rw [← hT] at HT ⊢
  rw [← hnb] at HB hcb
  rw [← hn] at hca
  simp only [← hn, ← hnb] at h3 ⊢
  have HLb : Hid (n = lb.length) := hnb
  have H0 : Hid (UnM w0 R0 u0 w) := hu
  obtain ⟨r0, hr0⟩ : ∃ r0, r0 = R0.length := ⟨_, rfl⟩
  rw [← hr0] at hR ⊢
  have HR0 : Hid (r0 = R0.length) := hr0
  clear ha hb hga hgb hn hnb hl hT hu hr0
  go_enter Tryz.func49, Tryz.ntmps49
  go_wp2_with fail
  go_loopw [0, 9] (fun ua i wr => ∃ (u : Value) (R : List (Ru × Value)) (k f : Nat), u = ua ∧ k ≤ n + 1 ∧ i = .int .i64 k ∧ Hid (UnM w0 R u wr ∧ T = R.map Prod.fst ++ (unlF (unD la lb) n (f + 1) k).map (unR lb y) ∧ n ≤ f + k ∧ R.length ≤ r0 + k ∧ R.length ≤ r0 + n)) (fun _ i _ => n + 1 - (intOf i).toNat)
  case atStart => exact ⟨_, R0, 0, n, rfl, by omega, rfl, H0.out, HT.out, by omega, by have := HR0.out; omega, by have := HR0.out; omega⟩
  case round =>
    obtain ⟨u, R, k, f, rfl, hk, rfl, HK⟩ := hrel
    clear H0
    rename World => wo
    by_cases hlt : k < n
    · have ik : (k : Int) < n := by omega
      obtain ⟨g, o, rfl, hgl, hat⟩ := HGa.out (by omega)
      obtain ⟨g', o', rfl, hgl', hat'⟩ := HGb.out (by omega)
      have HAt : Hid (∀ i, i < n → ∀ W, Below w0.heap.size w0 W → CeAt W g (o + i * 11) (la.getD i ceZ) ∧ CeAt W g' (o' + i * 11) (lb.getD i ceZ)) := fun i hi W hW => ⟨(hat i hi).kept fun j => hW.cell (p := ⟨g, j, none⟩) hgl, (hat' i hi).kept fun j => hW.cell (p := ⟨g', j, none⟩) hgl'⟩
      clear hat hat'
      go_wp2_with fail
      go_loopw [10] (fun i wr => ∃ m : Nat, k ≤ m ∧ m ≤ n ∧ i = .int .i64 m ∧ Hid (Below wo.heap.size wo wr ∧ ∀ i, k ≤ i → i < m → unD la lb i = true)) (fun i _ => n - (intOf i).toNat)
      case atStart => exact ⟨k, Nat.le_refl _, by omega, rfl, Below.refl _ _, fun i h1 h2 => by omega⟩
      case round =>
        obtain ⟨m, hkm, hmn, rfl, HM⟩ := hrel
        by_cases hlm : m < n
        · have im : (m : Int) < n := by omega
          have ne : Nonempty (Gw wr) := ⟨⟨wr, Below.refl _ _⟩⟩
          obtain ⟨hx, hy⟩ := HAt.out m hlm wr (HK.out.1.b.trans (HM.out.1.mono HK.out.1.b.size))
          have hud : unD la lb m = !eqC (la.getD m ceZ) (lb.getD m ceZ) := rfl
          generalize la.getD m ceZ = x at *
          generalize lb.getD m ceZ = z at *
          have hq := neq_cell x z
          obtain ⟨x0, x1, x2, x3, x4, x5, x6, x7, x8, x9, x10⟩ := hx
          obtain ⟨y0, y1, y2, y3, y4, y5, y6, y7, y8, y9, y10⟩ := hy
          generalize eqC x z = q at *
          cases q
          · have HUd : Hid (unD la lb m = true) := hud
            clear hud
            simp only [Bool.not_false] at hq
            go_wp2_with fail
            go_quiet (fail)
            clear hq x0 x1 x2 x3 x4 x5 x6 x7 x8 x9 x10 y0 y1 y2 y3 y4 y5 y6 y7 y8 y9 y10
            go_wp2
            go_roundw
            case rel => exact ⟨m + 1, by omega, by omega, by go_num, below_drewN HM.out.1, fun i h1 h2 => by
              by_cases e : i = m
              · subst e; exact HUd.out
              · exact HM.out.2 i h1 (by omega)⟩
            case measure => simp [intOf]; omega
          · have HUd : Hid (unD la lb m = false) := hud
            clear hud
            simp only [Bool.not_true] at hq
            go_wp2_with fail
            go_quiet (fail)
            clear hq x0 x1 x2 x3 x4 x5 x6 x7 x8 x9 x10 y0 y1 y2 y3 y4 y5 y6 y7 y8 y9 y10
            have HM2 : Hid (Below wo.heap.size wo (wr.drewN nq) ∧ toU (unD la lb) (n - k) k = m) := ⟨below_drewN HM.out.1, toU_at _ n _ k m rfl hkm hmn HM.out.2 (fun _ => HUd.out)⟩
            generalize wr.drewN nq = wz at *
            clear HM HUd im
            by_cases hkm2 : k < m
            · have HS : Hid (UnM w0 R u wz ∧ n = lb.length) := ⟨HK.out.1.below HM2.out.1, HLb.out⟩
              have lo1 : (k : Int) ≤ m := by omega
              have lo2 : (m : Int) ≤ cb := by omega
              have lo3 : ¬ cb = k := by omega
              have lo4 : ¬ k = cb := by omega
              obtain ⟨N, hN⟩ : ∃ N, N = m - k := ⟨_, rfl⟩
              have HSub : Hid (LsC wz (.slice (some ⟨g', o' + k * 11, none⟩) (m - k) (cb - k)) ((lb.drop k).take (m - k)) ∧ ((lb.drop k).take (m - k)).length = m - k) := ⟨lsC_sub (HB.out.below (HS.out.1.b)) HS.out.2 (by omega) hmn rfl, by have := HS.out.2; simp; omega⟩
              have HClo : Hid (Calls Tryz.prog 57 #[.slice (some ⟨g', o' + k * 11, none⟩) (m - k) (cb - k)] wz fun e w' => ∃ u, e = .returned u ∧ OwC wz.heap.size w' u ((lb.drop k).take (m - k)) ∧ Below wz.heap.size wz w') := cloneC_any _ _ wz HSub.out.1 (fun c e => by cases e) (by have := HSub.out.2; omega)
              go_wp2_with fail
              refine HClo.out.mono ?_
              rintro e w3 ⟨x, rfl, hx, hb3⟩
              obtain ⟨gx, cx, rfl, hxm⟩ := hx.scm (by rw [HSub.out.2]; omega)
              have H3 : Hid (UnM w0 R u w3 ∧ OwC w0.heap.size w3 (.slice (some ⟨gx, 0, none⟩) ((lb.drop k).take (m - k)).length cx) ((lb.drop k).take (m - k)) ∧ Below wz.heap.size wz w3) := ⟨HS.out.1.below hb3, row_weaken hx HS.out.1.b.size, hb3⟩
              clear hx hxm hb3 HClo HSub
              have HA : Hid (∀ o, (w3.alloc o).ownsRow w0.heap.size 63 3 u R.length (flatU R) ∧ w0.heap.size ≤ (w3.alloc o).heap.size) := fun o => ⟨row_below H3.out.1.o ((Below.refl _ _).alloc (Nat.le_refl _) _), by have := H3.out.1.b.size; simp; omega⟩
              have hc3 : Hid (R.length + 1 ≤ maxLen) := by have := HK.out.2.2.2.2; unfold Hid maxLen; omega
              have hc4 : Hid ((R.length + 1) * 40 ≤ 140737488355328) := by have := HK.out.2.2.2.2; unfold Hid; omega
              generalize hL : ((lb.drop k).take (m - k)).length = L at *
              go_wp2_with (at_builtin; refine wpList_append_lies _ rfl _ _ 57 rfl w0.heap.size 63 i0 (.agg #[.int .i64 0, .int .i64 0, .slice none 0 0]) 3 40 Tryz.underlying57 hi hz0 hz1 hz2 rfl (by decide) u R.length (flatU R) rfl (HA.out _).1 _ 1 1 [.int .i64 k, .int .i64 y, .slice (some ⟨gx, 0, none⟩) L cx] rfl rfl (cell_three _ _ _ _ _) (one_three _ _ _ _ _) (by decide) hc3.out hc4.out (HA.out _).2 _ rfl ?_)
              intro g4 cap4 w4 hown' hgrow hlies hg4
              have HRel : Hid (UnM w0 (R ++ [(⟨k, y, (lb.drop k).take (m - k)⟩, .slice (some ⟨gx, 0, none⟩) L cx)]) (.slice (some ⟨g4, 0, none⟩) (R.length + 1) cap4) w4) :=
                H3.out.1.snoc ((Below.refl _ _).alloc (Nat.le_refl _) _) ⟨k, y, (lb.drop k).take (m - k)⟩ _ _ (row_below H3.out.2.1 ((Below.refl _ _).alloc (Nat.le_refl _) _)) rfl hown' hgrow
              have HRel2 : Hid (∃ f', T = (R ++ [((⟨k, y, (lb.drop k).take (m - k)⟩ : Ru), Value.slice (some ⟨gx, 0, none⟩) L cx)]).map Prod.fst ++ (unlF (unD la lb) n (f' + 1) (m + 1)).map (unR lb y) ∧ n ≤ f' + (m + 1) ∧ (R ++ [((⟨k, y, (lb.drop k).take (m - k)⟩ : Ru), Value.slice (some ⟨gx, 0, none⟩) L cx)]).length ≤ r0 + (m + 1) ∧ (R ++ [((⟨k, y, (lb.drop k).take (m - k)⟩ : Ru), Value.slice (some ⟨gx, 0, none⟩) L cx)]).length ≤ r0 + n) := by
                obtain ⟨a1, a2, a3, a4, a5⟩ := HK.out
                obtain ⟨f', rfl⟩ : ∃ f', f = f' + 1 := ⟨f - 1, by omega⟩
                refine ⟨f', ?_, by omega, by simp; omega, by simp; omega⟩
                rw [a2, unlF, if_pos hlt, HM2.out.2, if_pos hkm2]
                simp [unR]
              clear hown' hgrow hlies hg4 HA H3 HK HM2 HS
              go_wp2
              go_roundw
              case rel =>
                obtain ⟨f', b1, b2, b3, b4⟩ := HRel2.out
                exact ⟨_, _, m + 1, f', rfl, by omega, by go_num, HRel.out, b1, b2, b3, b4⟩
              case measure => simp [intOf]; omega
            · obtain hkm3 : m = k := by omega
              have HRel : Hid (UnM w0 R u wz) := HK.out.1.below HM2.out.1
              have HRel2 : Hid (∃ f', T = R.map Prod.fst ++ (unlF (unD la lb) n (f' + 1) (k + 1)).map (unR lb y) ∧ n ≤ f' + (k + 1) ∧ R.length ≤ r0 + (k + 1) ∧ R.length ≤ r0 + n) := by
                obtain ⟨a1, a2, a3, a4, a5⟩ := HK.out
                obtain ⟨f', rfl⟩ : ∃ f', f = f' + 1 := ⟨f - 1, by omega⟩
                refine ⟨f', ?_, by omega, by omega, by omega⟩
                rw [a2, unlF, if_pos hlt, HM2.out.2, if_neg hkm2, hkm3]
                simp
              have lo5 : decide ((k : Int) < (m : Int)) = false := by simp; omega
              clear HK HM2
              go_wp2
              go_roundw
              case rel =>
                obtain ⟨f', b1, b2, b3, b4⟩ := HRel2.out
                exact ⟨_, _, k + 1, f', rfl, by omega, by go_num, HRel.out, b1, b2, b3, b4⟩
              case measure => simp [intOf]; omega
        · obtain rfl : m = n := by omega
          go_wp2_with fail
          go_quiet (fail)
          have HM2 : Hid (Below wo.heap.size wo (wr.drewN nq) ∧ toU (unD la lb) (m - k) k = m) := ⟨below_drewN HM.out.1, toU_at _ m _ k m rfl hkm hmn HM.out.2 (fun h => absurd h (Nat.lt_irrefl _))⟩
          generalize wr.drewN nq = wz at *
          clear HM
          by_cases hkm2 : k < m
          · have HS : Hid (UnM w0 R u wz ∧ m = lb.length) := ⟨HK.out.1.below HM2.out.1, HLb.out⟩
            have lo1 : (k : Int) ≤ m := by omega
            have lo2 : (m : Int) ≤ cb := by omega
            have lo3 : ¬ cb = k := by omega
            have lo4 : ¬ k = cb := by omega
            obtain ⟨N, hN⟩ : ∃ N, N = m - k := ⟨_, rfl⟩
            have HSub : Hid (LsC wz (.slice (some ⟨g', o' + k * 11, none⟩) (m - k) (cb - k)) ((lb.drop k).take (m - k)) ∧ ((lb.drop k).take (m - k)).length = m - k) := ⟨lsC_sub (HB.out.below (HS.out.1.b)) HS.out.2 (by omega) hmn rfl, by have := HS.out.2; simp; omega⟩
            have HClo : Hid (Calls Tryz.prog 57 #[.slice (some ⟨g', o' + k * 11, none⟩) (m - k) (cb - k)] wz fun e w' => ∃ u, e = .returned u ∧ OwC wz.heap.size w' u ((lb.drop k).take (m - k)) ∧ Below wz.heap.size wz w') := cloneC_any _ _ wz HSub.out.1 (fun c e => by cases e) (by have := HSub.out.2; omega)
            go_wp2_with fail
            refine HClo.out.mono ?_
            rintro e w3 ⟨x, rfl, hx, hb3⟩
            obtain ⟨gx, cx, rfl, hxm⟩ := hx.scm (by rw [HSub.out.2]; omega)
            have H3 : Hid (UnM w0 R u w3 ∧ OwC w0.heap.size w3 (.slice (some ⟨gx, 0, none⟩) ((lb.drop k).take (m - k)).length cx) ((lb.drop k).take (m - k)) ∧ Below wz.heap.size wz w3) := ⟨HS.out.1.below hb3, row_weaken hx HS.out.1.b.size, hb3⟩
            clear hx hxm hb3 HClo HSub
            have HA : Hid (∀ o, (w3.alloc o).ownsRow w0.heap.size 63 3 u R.length (flatU R) ∧ w0.heap.size ≤ (w3.alloc o).heap.size) := fun o => ⟨row_below H3.out.1.o ((Below.refl _ _).alloc (Nat.le_refl _) _), by have := H3.out.1.b.size; simp; omega⟩
            have hc3 : Hid (R.length + 1 ≤ maxLen) := by have := HK.out.2.2.2.2; unfold Hid maxLen; omega
            have hc4 : Hid ((R.length + 1) * 40 ≤ 140737488355328) := by have := HK.out.2.2.2.2; unfold Hid; omega
            generalize hL : ((lb.drop k).take (m - k)).length = L at *
            go_wp2_with (at_builtin; refine wpList_append_lies _ rfl _ _ 57 rfl w0.heap.size 63 i0 (.agg #[.int .i64 0, .int .i64 0, .slice none 0 0]) 3 40 Tryz.underlying57 hi hz0 hz1 hz2 rfl (by decide) u R.length (flatU R) rfl (HA.out _).1 _ 1 1 [.int .i64 k, .int .i64 y, .slice (some ⟨gx, 0, none⟩) L cx] rfl rfl (cell_three _ _ _ _ _) (one_three _ _ _ _ _) (by decide) hc3.out hc4.out (HA.out _).2 _ rfl ?_)
            intro g4 cap4 w4 hown' hgrow hlies hg4
            have HRel : Hid (UnM w0 (R ++ [(⟨k, y, (lb.drop k).take (m - k)⟩, .slice (some ⟨gx, 0, none⟩) L cx)]) (.slice (some ⟨g4, 0, none⟩) (R.length + 1) cap4) w4) :=
              H3.out.1.snoc ((Below.refl _ _).alloc (Nat.le_refl _) _) ⟨k, y, (lb.drop k).take (m - k)⟩ _ _ (row_below H3.out.2.1 ((Below.refl _ _).alloc (Nat.le_refl _) _)) rfl hown' hgrow
            have HRel2 : Hid (∃ f', T = (R ++ [((⟨k, y, (lb.drop k).take (m - k)⟩ : Ru), Value.slice (some ⟨gx, 0, none⟩) L cx)]).map Prod.fst ++ (unlF (unD la lb) m (f' + 1) (m + 1)).map (unR lb y) ∧ m ≤ f' + (m + 1) ∧ (R ++ [((⟨k, y, (lb.drop k).take (m - k)⟩ : Ru), Value.slice (some ⟨gx, 0, none⟩) L cx)]).length ≤ r0 + (m + 1) ∧ (R ++ [((⟨k, y, (lb.drop k).take (m - k)⟩ : Ru), Value.slice (some ⟨gx, 0, none⟩) L cx)]).length ≤ r0 + m) := by
              obtain ⟨a1, a2, a3, a4, a5⟩ := HK.out
              obtain ⟨f', rfl⟩ : ∃ f', f = f' + 1 := ⟨f - 1, by omega⟩
              refine ⟨f', ?_, by omega, by simp; omega, by simp; omega⟩
              rw [a2, unlF, if_pos hlt, HM2.out.2, if_pos hkm2]
              simp [unR]
            clear hown' hgrow hlies hg4 HA H3 HK HM2 HS
            go_wp2
            go_roundw
            case rel =>
              obtain ⟨f', b1, b2, b3, b4⟩ := HRel2.out
              exact ⟨_, _, m + 1, f', rfl, by omega, by go_num, HRel.out, b1, b2, b3, b4⟩
            case measure => simp [intOf]; omega
          · obtain hkm3 : m = k := by omega
            have HRel : Hid (UnM w0 R u wz) := HK.out.1.below HM2.out.1
            have HRel2 : Hid (∃ f', T = R.map Prod.fst ++ (unlF (unD la lb) m (f' + 1) (k + 1)).map (unR lb y) ∧ m ≤ f' + (k + 1) ∧ R.length ≤ r0 + (k + 1) ∧ R.length ≤ r0 + m) := by
              obtain ⟨a1, a2, a3, a4, a5⟩ := HK.out
              obtain ⟨f', rfl⟩ : ∃ f', f = f' + 1 := ⟨f - 1, by omega⟩
              refine ⟨f', ?_, by omega, by omega, by omega⟩
              rw [a2, unlF, if_pos hlt, HM2.out.2, if_neg hkm2, hkm3]
              simp
            have lo5 : decide ((k : Int) < (m : Int)) = false := by simp; omega
            clear HK HM2
            go_wp2
            go_roundw
            case rel =>
              obtain ⟨f', b1, b2, b3, b4⟩ := HRel2.out
              exact ⟨_, _, k + 1, f', rfl, by omega, by go_num, HRel.out, b1, b2, b3, b4⟩
            case measure => simp [intOf]; omega
    · have HF : Hid (UnM w0 R u wo ∧ R.map Prod.fst = T ∧ R.length ≤ r0 + n) := by
        obtain ⟨a1, a2, a3, a4, a5⟩ := HK.out
        refine ⟨a1, ?_, a5⟩
        rw [a2, unlF, if_neg hlt]
        simp
      clear HK
      go_wp2
      go_ret
      exact ⟨u, R, rfl, HF⟩

end Go.Proofs.YtapachlhdgehjaaGreatDoor

/-
  Package cells: Runs of two screens that may be, of one size.
-/
namespace Go.Proofs.YtapachlhdgehjaaGreatDoor
open Go.RowKit

def orI (x y : Int) : Int := if x = 0 then y else x
set_option maxHeartbeats 2000000 in
theorem or2_any (x y : Int) (g : Nat) (w : World) (hg : Bk w g #[.int .i64 x, .int .i64 y] 30) : Calls Tryz.prog 48 #[.slice (some ⟨g, 0, none⟩) 2 2] w fun e w' => e = .returned (.int .i64 (orI x y)) ∧ w' = w := by
  have c0 := (Bk.at2 hg).1
  have c1 := (Bk.at2 hg).2
  clear hg
  go_enter Tryz.func48, Tryz.ntmps48
  go_wp2_with fail
  go_loopw [5, 8] (fun _ i wr => ∃ k : Nat, k ≤ 2 ∧ i = .int .i64 k ∧ wr = w ∧ Hid ((0 < k → x = 0) ∧ (1 < k → y = 0))) (fun _ i _ => 2 - (intOf i).toNat)
  case atStart => exact ⟨0, Nat.zero_le _, rfl, rfl, ⟨fun h => absurd h (by omega), fun h => absurd h (by omega)⟩⟩
  case round =>
    obtain ⟨k, hk, rfl, rfl, HK⟩ := hrel
    obtain rfl | rfl | rfl : k = 0 ∨ k = 1 ∨ k = 2 := by omega
    · clear HK
      by_cases e : x = 0
      · subst e
        go_wp2
        exact ⟨⟨1, by omega, by go_num, trivial, ⟨fun _ => trivial, fun h => absurd h (by omega)⟩⟩, by simp [intOf]⟩
      · have c2 : (x != 0) = true := by simpa using e
        have HE : Hid (orI x y = x) := by unfold Hid orI; rw [if_neg e]
        clear e
        go_wp2
        go_ret
        exact ⟨by rw [HE.out]; rfl, rfl⟩
    · have hx := HK.out.1 (by omega)
      subst hx
      clear HK
      by_cases e : y = 0
      · subst e
        go_wp2
        exact ⟨⟨2, by omega, by go_num, trivial, ⟨fun _ => trivial, fun _ => trivial⟩⟩, by simp [intOf]⟩
      · have c2 : (y != 0) = true := by simpa using e
        have HE : Hid (orI 0 y = y) := rfl
        clear e
        go_wp2
        go_ret
        exact ⟨by rw [HE.out]; rfl, rfl⟩
    · have HE : Hid (orI x y = 0) := by unfold Hid orI; rw [if_pos (HK.out.1 (by omega)), HK.out.2 (by omega)]
      clear HK
      go_wp2
      go_ret
      exact ⟨by rw [HE.out]; rfl, rfl⟩

def rowL (a : Nat) (l : List Ce) (y : Nat) : List Ce := (l.drop (y * a)).take a
def rnL (a : Nat) (la lb : List Ce) : Nat → List Ru
  | 0 => []
  | y + 1 => rnL a la lb y ++ unL (rowL a la y) (rowL a lb y) y

theorem eql_size (x y : Int) (w : World) : (binOp .neq 23 (.agg #[.int .i64 x, .int .i64 y]) (.agg #[.int .i64 x, .int .i64 y])).run Tryz.prog w = .ok (.bool false) w := by
  simp [go_sem]

set_option maxRecDepth 20000 in
set_option maxHeartbeats 8000000 in
theorem runs_ok (a b : Nat) (la lb : List Ce) (ga oa ca gb ob cb n : Nat) (w : World) (ha : LsC w (.slice (some ⟨ga, oa, none⟩) n ca) la) (hb : LsC w (.slice (some ⟨gb, ob, none⟩) n cb) lb) (na : n = la.length) (nb : n = lb.length) (sa : scE a b la = 0) (sb : scE a b lb = 0) (h0 : 0 < a) (T : Tabs w) :
    Calls Tryz.prog 23 #[.agg #[.int .i64 (a : Nat), .int .i64 (b : Nat), .slice (some ⟨ga, oa, none⟩) n ca], .agg #[.int .i64 (a : Nat), .int .i64 (b : Nat), .slice (some ⟨gb, ob, none⟩) n cb]] w fun e w' => ∃ u R, e = .returned (.tuple #[u, .int .i64 0]) ∧ Hid (UnM w R u w' ∧ R.map Prod.fst = rnL a la lb b) := by
  have hs : szB a b = true ∧ (n : Int) = a * b := by
    unfold scE at sa
    split at sa
    · rename_i h; rw [na]; exact ⟨h.1, h.2.1⟩
    · cases sa
  obtain ⟨hs, hnm⟩ := hs
  obtain ⟨s1, s2, s3, s4, s5⟩ := szB_iff.1 hs
  have hnb : n ≤ 262144 := by omega
  have hnat : n = a * b := by
    have : ((a * b : Nat) : Int) = (a : Int) * b := by simp
    omega
  have HA : Hid (∀ W, Below w.heap.size w W → LsC W (.slice (some ⟨ga, oa, none⟩) n ca) la ∧ LsC W (.slice (some ⟨gb, ob, none⟩) n cb) lb ∧ Tabs W) := fun W h => ⟨ha.below h, hb.below h, T.below h⟩
  have HC0 : Hid (∀ v W, Below w.heap.size w W → (v = .slice (some ⟨ga, oa, none⟩) n ca ∨ v = .slice (some ⟨gb, ob, none⟩) n cb) → Calls Tryz.prog 26 #[.agg #[.int .i64 (a : Nat), .int .i64 (b : Nat), v]] W fun e w' => e = .returned (.int .i64 0) ∧ Below W.heap.size W w') := fun v W h hv => by
    rcases hv with rfl | rfl
    · have := checkC_any a b la _ W (ha.below h) (by omega) (T.below h)
      rw [sa] at this
      exact this
    · have := checkC_any a b lb _ W (hb.below h) (by omega) (T.below h)
      rw [sb] at this
      exact this
  have hcap : n ≤ ca ∧ n ≤ cb := by
    obtain ⟨_, c1, e1, h1, _⟩ := ha
    obtain ⟨_, c2, e2, h2, _⟩ := hb
    injection e1 with _ _ e1
    injection e2 with _ _ e2
    omega
  have HRa : Hid (∀ (y : Nat) W, y < b → Calls Tryz.prog 45 #[.agg #[.int .i64 (a : Nat), .int .i64 (b : Nat), .slice (some ⟨ga, oa, none⟩) n ca], .int .i64 y] W fun e w' => e = .returned (.slice (some ⟨ga, oa + y * a * 11, none⟩) a (ca - y * a)) ∧ Below W.heap.size W w') := fun y W hy => rowC_any a b y ga oa n ca W hs hnm hcap.1 (by omega) (by omega) (by omega) (y * a) (by simp) a rfl
  have HRb : Hid (∀ (y : Nat) W, y < b → Calls Tryz.prog 45 #[.agg #[.int .i64 (a : Nat), .int .i64 (b : Nat), .slice (some ⟨gb, ob, none⟩) n cb], .int .i64 y] W fun e w' => e = .returned (.slice (some ⟨gb, ob + y * a * 11, none⟩) a (cb - y * a)) ∧ Below W.heap.size W w') := fun y W hy => rowC_any a b y gb ob n cb W hs hnm hcap.2 (by omega) (by omega) (by omega) (y * a) (by simp) a rfl
  have hra : ∀ (y : Nat), y < b → y * a + a ≤ n := fun y hy => by
    rw [hnat]
    calc y * a + a = (y + 1) * a := by rw [Nat.succ_mul]
      _ ≤ b * a := Nat.mul_le_mul_right a hy
      _ = a * b := Nat.mul_comm _ _
  have HSub : Hid (∀ (y : Nat), y < b → LsC w (.slice (some ⟨ga, oa + y * a * 11, none⟩) a (ca - y * a)) (rowL a la y) ∧ LsC w (.slice (some ⟨gb, ob + y * a * 11, none⟩) a (cb - y * a)) (rowL a lb y) ∧ (rowL a la y).length = a ∧ (rowL a lb y).length = a) := fun y hy => by
    have h1 := hra y hy
    have k1 := lsC_sub (k := y * a) (m := y * a + a) ha na (by omega) h1 rfl
    have k2 := lsC_sub (k := y * a) (m := y * a + a) hb nb (by omega) h1 rfl
    rw [Nat.add_sub_cancel_left] at k1 k2
    exact ⟨k1, k2, by simp [rowL]; omega, by simp [rowL]; omega⟩
  have HLa : Hid (∀ W0, Below w.heap.size w W0 → ∀ R : List (Ru × Value), ∀ u W (y : Nat), y < b → UnM W0 R u W → R.length ≤ 600000 → Calls Tryz.prog 49 #[u, .slice (some ⟨ga, oa + y * a * 11, none⟩) a (ca - y * a), .slice (some ⟨gb, ob + y * a * 11, none⟩) a (cb - y * a), .int .i64 y] W fun e w' => ∃ u' R', e = .returned u' ∧ Hid (UnM W0 R' u' w' ∧ R'.map Prod.fst = R.map Prod.fst ++ unL (rowL a la y) (rowL a lb y) y ∧ R'.length ≤ R.length + (rowL a la y).length)) := fun W0 h0 R u W y hy hU hR => by
    obtain ⟨q1, q2, q3, q4⟩ := HSub.out y hy
    exact unl_any W0 R u _ _ _ _ y W hU (q1.below h0) (q2.below h0) (by omega) (by omega) hR
  have HLen : Hid (∀ y : Nat, y < b → (rowL a la y).length = a) := fun y hy => (HSub.out y hy).2.2.1
  have HNb : Hid (∀ y : Nat, y < b → y * a + a ≤ 262144) := fun y hy => by have := hra y hy; omega
  have HB0 : Hid (∀ W, W = (w.alloc (.cells #[.int .i64 (a : Nat), .int .i64 (b : Nat), .slice (some ⟨ga, oa, none⟩) n ca] 26)).alloc (.cells #[.int .i64 (a : Nat), .int .i64 (b : Nat), .slice (some ⟨gb, ob, none⟩) n cb] 26) → Bk W w.heap.size #[.int .i64 (a : Nat), .int .i64 (b : Nat), .slice (some ⟨ga, oa, none⟩) n ca] 26 ∧ Bk W (w.heap.size + 1) #[.int .i64 (a : Nat), .int .i64 (b : Nat), .slice (some ⟨gb, ob, none⟩) n cb] 26 ∧ Below w.heap.size w W) := fun W hW => by
    have k2 := Bk.new (w.alloc (.cells #[.int .i64 (a : Nat), .int .i64 (b : Nat), .slice (some ⟨ga, oa, none⟩) n ca] 26)) #[.int .i64 (a : Nat), .int .i64 (b : Nat), .slice (some ⟨gb, ob, none⟩) n cb] 26
    simp only [World.size_alloc] at k2
    subst hW
    exact ⟨(Bk.new w _ _).below ((Below.refl _ _).alloc (Nat.le_refl _) _), k2, ((Below.refl _ w).alloc (Nat.le_refl _) _).alloc (by simp) _⟩
  have HNm : Hid (∀ y : Nat, y < b → y * a + a ≤ (y + 1) * a ∧ (y + 1) * a ≤ 262144) := fun y hy => by have := hra y hy; rw [Nat.succ_mul]; omega
  have HE := eql_size a b
  clear ha hb na nb sa sb T hs hnm hcap hra HSub hnat s1 s2 s3 s5
  go_enter Tryz.func23, Tryz.ntmps23
  go_wp2_with fail
  obtain ⟨W1, hW1⟩ : ∃ W1, W1 = (w.alloc (.cells #[.int .i64 (a : Nat), .int .i64 (b : Nat), .slice (some ⟨ga, oa, none⟩) n ca] 26)).alloc (.cells #[.int .i64 (a : Nat), .int .i64 (b : Nat), .slice (some ⟨gb, ob, none⟩) n cb] 26) := ⟨_, rfl⟩
  have H1 : Hid (Bk W1 w.heap.size #[.int .i64 (a : Nat), .int .i64 (b : Nat), .slice (some ⟨ga, oa, none⟩) n ca] 26 ∧ Bk W1 (w.heap.size + 1) #[.int .i64 (a : Nat), .int .i64 (b : Nat), .slice (some ⟨gb, ob, none⟩) n cb] 26 ∧ Below w.heap.size w W1) := HB0.out W1 hW1
  rw [← hW1]
  clear hW1 HB0
  obtain ⟨sb, hsb⟩ : ∃ sb, sb = w.heap.size := ⟨_, rfl⟩
  have H2 : Hid (Bk W1 sb #[.int .i64 (a : Nat), .int .i64 (b : Nat), .slice (some ⟨ga, oa, none⟩) n ca] 26 ∧ Bk W1 (sb + 1) #[.int .i64 (a : Nat), .int .i64 (b : Nat), .slice (some ⟨gb, ob, none⟩) n cb] 26 ∧ Below w.heap.size w W1) := by rw [hsb]; exact H1
  rw [← hsb]
  clear H1 hsb
  refine R4.wp_region_lit 4 1 2 (fun _ q => .slice (some ⟨q, 0, none⟩) 2 2) (fun _ => .cells #[.int .i64 0, .int .i64 0] 30) [13] (by kernel_rfl) (by kernel_rfl) rfl (fun k hk => by obtain rfl : k = 0 := (by omega); kernel_rfl) rfl ?_
  apply Exists.intro
  refine ⟨fun bs ne => ?_, ?_, ?_⟩
  · have x0 := fun tt : Gb W1 bs => (Bk.at3S (H2.out.1.below tt.below)).1
    have x1 := fun tt : Gb W1 bs => (Bk.at3S (H2.out.1.below tt.below)).2.1
    have x2 := fun tt : Gb W1 bs => (Bk.at3S (H2.out.1.below tt.below)).2.2
    have y0 := fun tt : Gb W1 bs => (Bk.at3S (H2.out.2.1.below tt.below)).1
    have y1 := fun tt : Gb W1 bs => (Bk.at3S (H2.out.2.1.below tt.below)).2.1
    have y2 := fun tt : Gb W1 bs => (Bk.at3S (H2.out.2.1.below tt.below)).2.2
    simp only [List.take_succ_cons, List.take_zero]
    repeat (go_big_quiet_step (first | (go_at_call 26; exact gb_call (HC0.out _ _ (H2.out.2.2.trans ((Gb.below _).mono H2.out.2.2.size)) (by first | exact .inl rfl | exact .inr rfl)))))
    exact wpQuiet_nil rfl
  · intro i h1 h2
    obtain rfl : i = 4 := by omega
    exact ⟨_, rfl, rfl, fun W => by simp [go_sem]⟩
  · intro bl wx hbl hbl2 _
    have HX : Hid (Bk wx sb #[.int .i64 (a : Nat), .int .i64 (b : Nat), .slice (some ⟨ga, oa, none⟩) n ca] 26 ∧ Bk wx (sb + 1) #[.int .i64 (a : Nat), .int .i64 (b : Nat), .slice (some ⟨gb, ob, none⟩) n cb] 26 ∧ Below w.heap.size w wx) := ⟨H2.out.1.below hbl, H2.out.2.1.below hbl, H2.out.2.2.trans (hbl.mono H2.out.2.2.size)⟩
    have HO : Hid (Bk wx (bl 4) #[.int .i64 0, .int .i64 0] 30) := (hbl2 4 (by omega) (by omega)).2
    simp only [R4.layL]
    clear hbl hbl2 H2
    refine wpAny_one 5 (by kernel_rfl) rfl ?_
    intro K hK
    go_simp
    refine (or2_any 0 0 _ wx HO.out).mono ?_
    rintro e w' ⟨rfl, rfl⟩
    refine hK _ _ ?_
    clear hK K
    refine wpAny_one 6 (by kernel_rfl) rfl ?_
    intro K hK
    go_simp
    refine hK _ _ ?_
    clear hK K HO
    generalize bl 4 = ob4 at *
    refine wpAny_done (by kernel_rfl) ?_ _
    have ho : orI 0 0 = 0 := rfl
    rw [ho]
    clear ho
    obtain ⟨x0, x1, x2⟩ := Bk.at3S HX.out.1
    obtain ⟨y0, y1, y2⟩ := Bk.at3S HX.out.2.1
    go_wp2_with fail
    have HW : Hid (∀ W, Below w'.heap.size w' W → Bk W sb #[.int .i64 (a : Nat), .int .i64 (b : Nat), .slice (some ⟨ga, oa, none⟩) n ca] 26 ∧ Bk W (sb + 1) #[.int .i64 (a : Nat), .int .i64 (b : Nat), .slice (some ⟨gb, ob, none⟩) n cb] 26) := fun W h => ⟨HX.out.1.below h, HX.out.2.1.below h⟩
    have HL2 := show Hid _ from HLa.out w' HX.out.2.2
    have HBw : Hid (Below w.heap.size w w') := HX.out.2.2
    have H0 : Hid (UnM w' [] (.slice none 0 0) w') := ⟨World.ownsRow_nil _ _ _ _, (fun p hp => by cases hp), Below.refl _ _⟩
    clear HX x0 x1 x2 y0 y1 y2 HLa
    rename World => wq
    go_loopw [7, 26] (fun ua i wr => ∃ (u : Value) (R : List (Ru × Value)) (k : Nat), u = ua ∧ k ≤ b ∧ i = .int .i64 k ∧ Hid (UnM wq R u wr ∧ R.map Prod.fst = rnL a la lb k ∧ R.length ≤ k * a)) (fun _ i _ => b - (intOf i).toNat)
    case atStart => exact ⟨_, [], 0, rfl, Nat.zero_le _, rfl, H0.out, rfl, by simp⟩
    case round =>
      obtain ⟨u, R, k, rfl, hk, rfl, HK⟩ := hrel
      clear H0
      by_cases hlt : k < b
      · have ik : (k : Int) < b := by omega
        have H1 : Hid (Bk wr sb #[.int .i64 (a : Nat), .int .i64 (b : Nat), .slice (some ⟨ga, oa, none⟩) n ca] 26 ∧ Bk wr (sb + 1) #[.int .i64 (a : Nat), .int .i64 (b : Nat), .slice (some ⟨gb, ob, none⟩) n cb] 26) := HW.out wr HK.out.1.b
        have HNx := show Hid _ from HNm.out k hlt
        have HLx := show Hid _ from HLen.out k hlt
        go_wp2_with fail
        refine R4.wp_region_lit 8 0 2 (fun _ _ => undef) (fun _ => .cells #[] 0) [] (by kernel_rfl) (by kernel_rfl) rfl (fun k hk => absurd hk (by omega)) rfl ?_
        apply Exists.intro
        refine ⟨fun bs ne => ?_, fun i h1 h2 => absurd h2 (by omega), ?_⟩
        · have x0 := fun tt : Gb wr bs => (Bk.at3S (H1.out.1.below tt.below)).1
          have x1 := fun tt : Gb wr bs => (Bk.at3S (H1.out.1.below tt.below)).2.1
          have x2 := fun tt : Gb wr bs => (Bk.at3S (H1.out.1.below tt.below)).2.2
          have y0 := fun tt : Gb wr bs => (Bk.at3S (H1.out.2.below tt.below)).1
          have y1 := fun tt : Gb wr bs => (Bk.at3S (H1.out.2.below tt.below)).2.1
          have y2 := fun tt : Gb wr bs => (Bk.at3S (H1.out.2.below tt.below)).2.2
          simp only [List.take_succ_cons, List.take_zero]
          iterate 3 (go_big_quiet_step (fail))
          go_big_quiet_step (first | (go_at_call 45; exact gb_call (HRa.out k _ hlt)))
          iterate 2 (go_big_quiet_step (fail))
          go_big_quiet_step (first | (go_at_call 45; exact gb_call (HRb.out k _ hlt)))
          go_big_quiet_step (fail)
          exact wpQuiet_nil rfl
        · intro bl wx hbl _ _
          have HU : Hid (UnM wq R u wx) := HK.out.1.below hbl
          have hRl : R.length ≤ 600000 := by
            have h1 := HK.out.2.2
            have h2 := HNx.out
            omega
          simp only [R4.layL]
          clear hbl
          refine wpAny_one 8 (by kernel_rfl) rfl ?_
          intro K hK
          go_simp
          refine (HL2.out R u wx k hlt HU.out hRl).mono ?_
          rintro e w5 ⟨u5, R5, rfl, H5⟩
          refine hK _ _ ?_
          clear hK K
          refine wpAny_one 9 (by kernel_rfl) rfl ?_
          intro K hK
          go_simp
          refine hK _ _ ?_
          clear hK K
          refine wpAny_done (by kernel_rfl) ?_ _
          have HRel : Hid (UnM wq R5 u5 w5 ∧ R5.map Prod.fst = rnL a la lb (k + 1) ∧ R5.length ≤ (k + 1) * a) := by
            obtain ⟨h1, h2, h3⟩ := H5.out
            refine ⟨h1, by rw [h2, HK.out.2.1]; rfl, ?_⟩
            have h4 := HK.out.2.2
            have h5 := HLx.out
            rw [Nat.succ_mul]
            omega
          clear H5 HK HU H1
          go_wp2
          go_roundw
          case rel => exact ⟨u5, R5, k + 1, rfl, by omega, by go_num, HRel⟩
          case measure => simp [intOf]; omega
      · obtain rfl : k = b := by omega
        have HF : Hid (UnM w R u wr ∧ R.map Prod.fst = rnL a la lb k) := by
          obtain ⟨h1, h2, h3⟩ := HK.out
          exact ⟨⟨row_weaken h1.o HBw.out.size, fun p hp => row_weaken (h1.c p hp) HBw.out.size, HBw.out.trans (h1.b.mono HBw.out.size)⟩, h2⟩
        clear HK
        go_wp2
        go_ret2
        exact ⟨u, R, rfl, HF⟩

end Go.Proofs.YtapachlhdgehjaaGreatDoor
