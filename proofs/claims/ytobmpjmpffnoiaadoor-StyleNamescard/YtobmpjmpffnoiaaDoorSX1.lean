/-
  Contracts of package style: the numbers of the rules that hold.
-/
import Derived.Test.YtobmpjmpffnoiaaDoorSW8
import Derived.Test.YtobmpjmpffnoiaaDoorSW9
namespace Go.Proofs.YtobmpjmpffnoiaaDoor
open Go.RowKit Go.Shelf

theorem row_own {β : Type} {L0 base : Nat} {e : TypeId} {size : Nat} {v : Value} {n : Nat} {xs : List Value} : OwnFrom L0 (fun (_ : β) V => V.ownsRow base e size v n xs) := by
  intro s X Y row hs hg hr
  obtain ⟨hl, h⟩ := hs
  refine ⟨hl, ?_⟩
  rcases h with h | ⟨g, cap, cur, rfl, hb, hc, h1, h2, h3, h4⟩
  · exact .inl h
  · refine .inr ⟨g, cap, cur, rfl, hb, ?_, h1, h2, h3, h4⟩
    refine (hg.block g (Array.getElem?_eq_some_iff.1 hc).1 (fun e => ?_)).trans hc
    obtain ⟨_, o, ho, hno⟩ := hr g e.symm
    rw [hc] at ho
    cases ho
    cases hno
theorem row_below {base : Nat} {e : TypeId} {size : Nat} {v : Value} {n : Nat} {xs : List Value} {X Y : World} (h : X.ownsRow base e size v n xs) (hb : Below X.heap.size X Y) : Y.ownsRow base e size v n xs :=
  OwnFrom.below (β := Unit) (B := 0) row_own (s := ()) h hb
theorem row_lt {base : Nat} {e : TypeId} {size : Nat} {v : Value} {n : Nat} {xs : List Value} {X : World} (h : X.ownsRow base e size v n xs) (g : Nat) (hg : v.ownBlock = some g) : base ≤ g ∧ g < X.heap.size := by
  obtain ⟨hl, h⟩ := h
  rcases h with ⟨rfl, _⟩ | ⟨g', cap, cur, rfl, hb, hc, _⟩
  · cases hg
  · simp [Value.ownBlock] at hg
    subst hg
    exact ⟨hb, (Array.getElem?_eq_some_iff.1 hc).1⟩
theorem cellNew (w : World) (x : Value) (t : TypeId) : ∀ (j : Nat) (u : Value), [x][j]? = some u → (w.alloc (.cells #[x] t)).cell? ((⟨w.heap.size, 0, none⟩ : Addr).add j) = some u := by
  intro j u hj
  match j, hj with
  | 0, hj =>
    simp at hj
    subst hj
    exact (Blk.new w #[x] t).at1
theorem oneInt (x : Int) : ∀ u ∈ [Value.int .i64 x], u.oneCell' = true := by
  intro u hu
  rw [List.mem_singleton] at hu
  subst hu
  rfl

def hAt (rs : List Rl) (kind : Nat) (t : ByteArray) (st i : Nat) : Bool := match rs[i]? with | some r => hld r kind t st | none => false
/-- The numbers of those that hold, below k. -/
def hs (rs : List Rl) (kind : Nat) (t : ByteArray) (st k : Nat) : List Nat := (List.range k).filter (hAt rs kind t st)
theorem hs_succ (rs : List Rl) (kind : Nat) (t : ByteArray) (st k : Nat) : hs rs kind t st (k + 1) = hs rs kind t st k ++ (if hAt rs kind t st k then [k] else []) := by
  unfold hs
  rw [List.range_succ, List.filter_append]
  cases h : hAt rs kind t st k <;> simp [h]
theorem hs_len (rs : List Rl) (kind : Nat) (t : ByteArray) (st k : Nat) : (hs rs kind t st k).length ≤ k := by
  have := List.length_filter_le (hAt rs kind t st) (List.range k)
  rwa [List.length_range] at this
theorem hs_lt (rs : List Rl) (kind : Nat) (t : ByteArray) (st k : Nat) : ∀ x ∈ hs rs kind t st k, x < k := fun _ hx => List.mem_range.1 (List.mem_filter.1 hx).1
theorem hs_up (rs : List Rl) (kind : Nat) (t : ByteArray) (st k : Nat) : (hs rs kind t st k).Pairwise (· < ·) := List.Pairwise.filter _ List.pairwise_lt_range

/-- Numbers in memory. -/
def Nums (w : World) (v : Value) (l : List Nat) : Prop := ∃ oa cap, v = .slice oa l.length cap ∧ (0 < l.length → ∃ g, oa = some ⟨g, 0, none⟩ ∧ g < w.heap.size ∧ ∀ i (h : i < l.length), w.cell? ⟨g, i, none⟩ = some (.int .i64 (l[i] : Nat)))
theorem Nums.below {w w' : World} {v : Value} {l : List Nat} (h : Nums w v l) (hb : Below w.heap.size w w') : Nums w' v l := by
  obtain ⟨oa, cap, e, hg⟩ := h
  refine ⟨oa, cap, e, fun hp => ?_⟩
  obtain ⟨g, e1, g1, g2⟩ := hg hp
  exact ⟨g, e1, Nat.lt_of_lt_of_le g1 hb.size, fun i hi => (hb.cell (p := ⟨g, i, none⟩) g1).trans (g2 i hi)⟩
/-- What the numbers are: sorted, and just those that hold. -/
def Held (rs : List Rl) (kind : Nat) (t : ByteArray) (st : Nat) (l : List Nat) : Prop := l.Pairwise (Wk (str rs)) ∧ (∀ x, x ∈ l ↔ x ∈ hs rs kind t st rs.length) ∧ l.length ≤ rs.length

theorem nums_row {w : World} {B n cap : Nat} {f : Nat → Nat} (h : Row w B 0 n f) : Nums w (.slice (some ⟨B, 0, none⟩) n cap) ((List.range n).map f) := by
  refine ⟨_, cap, by rw [List.length_map, List.length_range], fun _ => ⟨B, rfl, h.lt, fun i hi => ?_⟩⟩
  have hi' : i < n := by simpa using hi
  have := h.at' i hi'
  rw [Nat.zero_add] at this
  rw [this]
  simp
theorem held_mrg {rs : List Rl} {kind : Nat} {t : ByteArray} {st n : Nat} {f0 f : Nat → Nat} (hn : n = (hs rs kind t st rs.length).length) (h0 : ∀ i (h : i < n), f0 i = (hs rs kind t st rs.length)[i]'(hn ▸ h)) (m : Mrg (str rs) f0 f 0 n) : Held rs kind t st ((List.range n).map f) := by
  refine ⟨?_, fun x => ?_, by rw [List.length_map, List.length_range, hn]; exact hs_len _ _ _ _ _⟩
  · rw [List.pairwise_iff_getElem]
    intro i j hi hj hij
    simp only [List.length_map, List.length_range] at hi hj
    simpa using m.1 i j (Nat.zero_le _) hij hj
  · constructor
    · intro hx
      obtain ⟨i, hi, rfl⟩ := List.mem_map.1 hx
      obtain ⟨j, _, j2, e⟩ := m.2.inn i (Nat.zero_le _) (List.mem_range.1 hi)
      rw [e, h0 j j2]
      exact List.getElem_mem _
    · intro hx
      obtain ⟨i, hi, e⟩ := List.getElem_of_mem hx
      have hi' : i < n := by rw [hn]; exact hi
      obtain ⟨j, _, j2, e2⟩ := m.2.bak i (Nat.zero_le _) hi'
      refine List.mem_map.2 ⟨j, List.mem_range.2 j2, ?_⟩
      rw [← e2, h0 i hi', e]

set_option maxHeartbeats 1000000 in
theorem holding_any (rs : List Rl) (v : Value) (kind : Nat) (t : ByteArray) (st : Nat) (w : World) (hv : Rules w v rs) (hw : ∀ r ∈ rs, r.state < 256) (ht : t.size < 1000000000) (hl : rs.length < 1000000) :
    Calls Tryd.prog 35 #[v, .int .u8 (kind : Nat), .string t, .int .u8 (st : Nat)] w fun e w' => ∃ (u : Value) (l : List Nat), e = .returned u ∧ Nums w' u l ∧ Held rs kind t st l ∧ Below w.heap.size w w' := by
  have hS : Hid (∀ (B n cap : Nat) (f : Nat → Nat) (W : World), Below w.heap.size w W → w.heap.size ≤ B → n < 1000000 → Row W B 0 n f → (∀ i, i < n → f i < rs.length) → (∀ i j, i < j → j < n → f i < f j) →
      Calls Tryd.prog 32 #[v, .slice (some ⟨B, 0, none⟩) n cap] W fun e w' => e = .returned (.tuple #[]) ∧ ∃ f', Row w' B 0 n f' ∧ Mrg (str rs) f f' 0 n ∧ Ex B W w') :=
    fun B n cap f W h1 h2 h3 h4 h5 h6 => sortBy_any rs v B 0 n cap f w W hv h1 h2 hw hl h3 h4 h5 h6
  obtain ⟨oa, cap, rfl, hc, hg⟩ := id hv
  have HG : Hid (0 < rs.length → ∃ g o, oa = some ⟨g, o, none⟩ ∧ g < w.heap.size ∧ ∀ i (h : i < rs.length), RlAt w g (o + i * 14) rs[i]) := hg
  obtain ⟨i0, hi, hz0, hz1, hz2⟩ := info_parts info_int
  have HI : Hid (Tryd.prog.info? 3 = some i0 ∧ i0.zero = some (.int .i64 0) ∧ i0.size = 1 ∧ i0.bytes = 8) := ⟨hi, hz0, hz1, hz2⟩
  clear hg hv hw hi hz0 hz1 hz2
  go_enter Tryd.func35, Tryd.ntmps35
  go_wp2_with fail
  go_loopw [9, 14] (fun vn vi wr => ∃ k : Nat, k ≤ rs.length ∧ vi = .int .i64 k ∧ Hid (wr.ownsRow w.heap.size 3 1 vn (hs rs kind t st k).length ((hs rs kind t st k).map fun x => .int .i64 (x : Nat)) ∧ Below w.heap.size w wr)) (fun _ vi _ => rs.length - (intOf vi).toNat)
  case atStart => exact ⟨0, Nat.zero_le _, rfl, ⟨World.ownsRow_nil _ _ _ _, Below.refl _ _⟩⟩
  case round =>
    obtain ⟨k, hk, rfl, HR⟩ := hrel
    by_cases hlt : k < rs.length
    · obtain ⟨g, o, rfl, hg, hat⟩ := HG.out (by omega)
      have hx := (hat k hlt).kept (w' := wr) fun j => HR.out.2.cell (p := ⟨g, j, none⟩) hg
      have e2 : hAt rs kind t st k = hld rs[k] kind t st := by unfold hAt; rw [List.getElem?_eq_getElem hlt]
      have HH : Hid (∀ w, Calls Tryd.prog 51 #[(Value.agg #[.int .u8 (rs[k].kind : Nat), .string rs[k].cls, .int .u8 (rs[k].state : Nat), .int .u8 (rs[k].look.has : Nat), .int .u8 rs[k].look.r, .int .u8 rs[k].look.g, .int .u8 rs[k].look.b, .int .u8 rs[k].look.a, .int .u8 rs[k].look.r2, .int .u8 rs[k].look.g2, .int .u8 rs[k].look.b2, .int .u8 rs[k].look.a2, .bool rs[k].look.bd, .int .i64 rs[k].look.pad]), .int .u8 (kind : Nat), .string t, .int .u8 (st : Nat)] w fun e w' => e = .returned (.bool (hAt rs kind t st k)) ∧ Below w.heap.size w w') := fun w => by
        rw [e2]; exact holds_any _ _ _ _ w ht
      have E1 : Hid (hs rs kind t st (k + 1) = hs rs kind t st k ++ (if hAt rs kind t st k then [k] else [])) := hs_succ _ _ _ _ _
      have L1 : Below w.heap.size w (wr.alloc (.cells (#[.int .u8 (rs[k].kind : Nat), .string rs[k].cls, .int .u8 (rs[k].state : Nat), .int .u8 (rs[k].look.has : Nat), .int .u8 rs[k].look.r, .int .u8 rs[k].look.g, .int .u8 rs[k].look.b, .int .u8 rs[k].look.a, .int .u8 rs[k].look.r2, .int .u8 rs[k].look.g2, .int .u8 rs[k].look.b2, .int .u8 rs[k].look.a2, .bool rs[k].look.bd, .int .i64 rs[k].look.pad]) 35)) := HR.out.2.alloc HR.out.2.size _
      have HL : Hid (Below w.heap.size w (wr.alloc (.cells (#[.int .u8 (rs[k].kind : Nat), .string rs[k].cls, .int .u8 (rs[k].state : Nat), .int .u8 (rs[k].look.has : Nat), .int .u8 rs[k].look.r, .int .u8 rs[k].look.g, .int .u8 rs[k].look.b, .int .u8 rs[k].look.a, .int .u8 rs[k].look.r2, .int .u8 rs[k].look.g2, .int .u8 rs[k].look.b2, .int .u8 rs[k].look.a2, .bool rs[k].look.bd, .int .i64 rs[k].look.pad]) 35))) := L1
      clear hat e2 L1
      generalize hAt rs kind t st k = b at *
      generalize rs[k] = x at *
      obtain ⟨x0, x1, x2, x3, x4, x5, x6, x7, x8, x9, x10, x11, x12, x13⟩ := hx
      cases b
      · go_wp2_with fail
        refine (HH.out _).mono ?_
        rintro e w1 ⟨rfl, hb⟩
        have H1 : Hid (wr.heap.size ≤ w1.heap.size ∧ w1.ownsRow w.heap.size 3 1 u9 (hs rs kind t st (k + 1)).length ((hs rs kind t st (k + 1)).map fun x => .int .i64 (x : Nat)) ∧ Below w.heap.size w w1) := by
          have e3 : hs rs kind t st (k + 1) = hs rs kind t st k := by rw [E1.out]; simp
          rw [e3]
          exact ⟨by have := hb.size; simp at this; omega, row_below (row_below HR.out.1 ((Below.refl _ wr).alloc (Nat.le_refl _) _)) hb, HL.out.trans (hb.mono HL.out.size)⟩
        clear hb
        go_wp2
        go_roundw
        case rel => exact ⟨k + 1, by omega, by go_num, ⟨H1.out.2.1, H1.out.2.2⟩⟩
        case measure => simp [intOf]; omega
      · go_wp2_with fail
        refine (HH.out _).mono ?_
        rintro e w1 ⟨rfl, hb⟩
        have H1 : Hid (w1.ownsRow w.heap.size 3 1 u9 (hs rs kind t st k).length ((hs rs kind t st k).map fun x => .int .i64 (x : Nat)) ∧ Below w.heap.size w w1) :=
          ⟨row_below (row_below HR.out.1 ((Below.refl _ wr).alloc (Nat.le_refl _) _)) hb, HL.out.trans (hb.mono HL.out.size)⟩
        clear hb
        have hlen := hs_len rs kind t st k
        obtain ⟨hi, hz0, hz1, hz2⟩ := HI.out
        have hc3 : Hid ((hs rs kind t st k).length + 1 ≤ maxLen) := by unfold Hid maxLen; omega
        have hc4 : Hid (((hs rs kind t st k).length + 1) * 8 ≤ 140737488355328) := by unfold Hid; omega
        have Hown : Hid (∀ o1, (w1.alloc o1).ownsRow w.heap.size 3 1 u9 (hs rs kind t st k).length ((hs rs kind t st k).map fun x => .int .i64 (x : Nat))) := fun o1 => row_below H1.out.1 ((Below.refl _ w1).alloc (Nat.le_refl _) o1)
        have hc5 : Hid (∀ o1, w.heap.size ≤ (w1.alloc o1).heap.size) := by intro o1; have := H1.out.2.size; simp; omega
        go_wp2_with (at_builtin; refine wpList_append_own _ rfl _ _ 24 rfl w.heap.size 3 i0 (.int .i64 0) 1 8 Tryd.underlying24 hi hz0 hz1 hz2 rfl (by decide) u9 (hs rs kind t st k).length ((hs rs kind t st k).map fun x => .int .i64 (x : Nat)) rfl (Hown.out _) _ 1 1 [.int .i64 k] rfl rfl (cellNew _ _ _) (oneInt _) hc3.out hc4.out (hc5.out _) ?_)
        intro v' w4 hown' hgrow hnil
        have H4 : Hid (w4.ownsRow w.heap.size 3 1 v' (hs rs kind t st (k + 1)).length ((hs rs kind t st (k + 1)).map fun x => .int .i64 (x : Nat)) ∧ Below w.heap.size w w4) := by
          have ar := Hown.out (.cells #[.int .i64 k] 3)
          have e3 : hs rs kind t st (k + 1) = hs rs kind t st k ++ [k] := by rw [E1.out]; simp
          rw [e3]
          exact ⟨by simpa using hown', (H1.out.2.alloc H1.out.2.size _).grown hgrow (hc5.out _) (fun g hg => (row_lt ar g hg).1)⟩
        clear hown' hgrow hnil hi hz0 hz1 hz2
        go_wp2
        go_roundw
        case rel => exact ⟨k + 1, by omega, by go_num, H4⟩
        case measure => simp [intOf]; omega
    · obtain rfl : k = rs.length := by omega
      have hlen := hs_len rs kind t st rs.length
      rcases HR.out.1.2 with ⟨rfl, h0⟩ | ⟨B, c1, cur, rfl, hB, hcu, hcap, _, hsz, htk⟩
      · have HN : Hid (Nums wr (.slice none 0 0) [] ∧ Held rs kind t st [] ∧ Below w.heap.size w wr) := by
          have : hs rs kind t st rs.length = [] := List.eq_nil_of_length_eq_zero h0
          refine ⟨⟨none, 0, rfl, fun h => absurd h (by simp)⟩, ⟨List.Pairwise.nil, fun x => by rw [this], Nat.zero_le _⟩, HR.out.2⟩
        clear HR
        go_wp2_with fail
        refine (sortBy_nil _ _ _ _).mono ?_
        rintro e w1 ⟨rfl, hb⟩
        have H1 : Hid (Nums w1 (.slice none 0 0) [] ∧ Held rs kind t st [] ∧ Below w.heap.size w w1) := ⟨HN.out.1.below hb, HN.out.2.1, HN.out.2.2.trans (hb.mono HN.out.2.2.size)⟩
        clear hb
        go_wp2
        exact bodyPost_ret (v := .slice none 0 0) (by simp [results, Tryd.results35, go_sem]) rfl ⟨_, [], rfl, H1.out.1, H1.out.2.1, H1.out.2.2⟩
      · obtain ⟨n, hn⟩ : ∃ n, n = (hs rs kind t st rs.length).length := ⟨_, rfl⟩
        have HN : Hid (n = (hs rs kind t st rs.length).length) := hn
        have R : Row wr B 0 n (fun i => (hs rs kind t st rs.length).getD i 0) := by
          have hb : Blk wr B cur 3 := hcu
          refine ⟨hb.lt, fun i hi => ?_, fun j => hb.frozen j⟩
          rw [Nat.zero_add, hb.cell i, ← Array.getElem?_toList, ← List.getElem?_take_of_lt (j := (hs rs kind t st rs.length).length * 1) (by omega), htk]
          simp [List.getD, List.getElem?_eq_getElem (show i < (hs rs kind t st rs.length).length by omega)]
        have HRr : Hid (Row wr B 0 n (fun i => (hs rs kind t st rs.length).getD i 0) ∧ Below w.heap.size w wr ∧ w.heap.size ≤ B) := ⟨R, HR.out.2, hB⟩
        have HU : Hid ((∀ i, i < n → (fun i => (hs rs kind t st rs.length).getD i 0) i < rs.length) ∧ (∀ i j, i < j → j < n → (fun i => (hs rs kind t st rs.length).getD i 0) i < (fun i => (hs rs kind t st rs.length).getD i 0) j)) := by
          refine ⟨fun i hi => ?_, fun i j hij hj => ?_⟩
          · simp only [List.getD, List.getElem?_eq_getElem (show i < (hs rs kind t st rs.length).length by omega), Option.getD_some]
            exact hs_lt _ _ _ _ _ _ (List.getElem_mem _)
          · simp only [List.getD, List.getElem?_eq_getElem (show i < (hs rs kind t st rs.length).length by omega), List.getElem?_eq_getElem (show j < (hs rs kind t st rs.length).length by omega), Option.getD_some]
            exact List.pairwise_iff_getElem.1 (hs_up rs kind t st rs.length) i j _ _ hij
        have hnl : n < 1000000 := by omega
        rw [← hn]
        clear R HR hn htk hsz hcu hlen
        go_wp2_with fail
        refine (hS.out B n c1 _ wr HRr.out.2.1 HRr.out.2.2 hnl HRr.out.1 HU.out.1 HU.out.2).mono ?_
        rintro e w2 ⟨rfl, f, R2, M2, X2⟩
        have HF : Hid (Nums w2 (.slice (some ⟨B, 0, none⟩) n c1) ((List.range n).map f) ∧ Held rs kind t st ((List.range n).map f) ∧ Below w.heap.size w w2) :=
          ⟨nums_row R2, held_mrg HN.out (fun i hi => by simp [List.getD, List.getElem?_eq_getElem (show i < (hs rs kind t st rs.length).length by rw [← HN.out]; exact hi)]) M2, HRr.out.2.1.trans (X2.below.mono HRr.out.2.2)⟩
        clear R2 M2 X2
        go_wp2
        exact bodyPost_ret (v := .slice (some ⟨B, 0, none⟩) n c1) (by simp [results, Tryd.results35, go_sem]) rfl ⟨_, _, rfl, HF.out.1, HF.out.2.1, HF.out.2.2⟩

end Go.Proofs.YtobmpjmpffnoiaaDoor
