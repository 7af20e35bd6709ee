/-
  The document's answer: which rules hold, which of them tell a thing. The document's answer: is a word one of a text's classes?
-/
import Derived.Test.YtobmpjmpffnoiaaDoorSQ3
import Derived.Test.YtobmpjmpffnoiaaDoorSW8
import Derived.Test.YtobmpjmpffnoiaaDoorSQ5
import Derived.Test.YtobmpjmpffnoiaaDoorSTp
namespace Go.Proofs.YtobmpjmpffnoiaaDoor
open Go.RowKit Go.Shelf

theorem suf_at (t : ByteArray) (p k : Nat) : (t.extract p t.size).data.toList[k]? = t.data.toList[p + k]? := by
  rw [ByteArray.data_extract, Array.getElem?_toList, Array.getElem?_toList, Array.getElem?_extract]
  have : t.data.size = t.size := rfl
  by_cases h : p + k < t.size
  · rw [if_pos (by rw [this]; omega)]
  · rw [if_neg (by rw [this]; omega), Array.getElem?_eq_none (by omega)]
theorem bl_found {t : ByteArray} {p i : Nat} (hp : p ≤ i) (hi : i < t.size) (h32 : (t[i]).toNat = 32) (hno : ∀ (j : Nat) (h : j < t.size), p ≤ j → j < i → (t[j]).toNat ≠ 32) : bl (t.extract p t.size) = ((i - p : Nat) : Int) := by
  unfold bl
  have e : t[i] = 32 := UInt8.toNat_inj.1 h32
  have hat : (t.extract p t.size).data.toList[i - p]? = some 32 := by
    rw [suf_at, show p + (i - p) = i by omega, at_list t hi, e]
  have hge := Lib.indexByte_ge (t.extract p t.size).data.toList 32
  by_cases hn : Lib.indexByte (t.extract p t.size).data.toList 32 = -1
  · exact absurd hat (Lib.indexByte_none hn (i - p))
  · obtain ⟨o, ho⟩ : ∃ o : Nat, Lib.indexByte (t.extract p t.size).data.toList 32 = o := ⟨_, (Int.toNat_of_nonneg (by omega)).symm⟩
    obtain ⟨h1, h2⟩ := Lib.indexByte_some ho
    rw [ho]
    congr 1
    rcases Nat.lt_trichotomy o (i - p) with h | h | h
    · exfalso
      rw [suf_at, at_list t (show p + o < t.size by omega)] at h1
      injection h1 with h3
      exact hno (p + o) (by omega) (by omega) (by omega) (by rw [h3]; rfl)
    · exact h
    · exact absurd hat (h2 _ h)
theorem bl_none {t : ByteArray} {p : Nat} (hno : ∀ (j : Nat) (h : j < t.size), p ≤ j → (t[j]).toNat ≠ 32) : bl (t.extract p t.size) < 0 := by
  unfold bl
  rcases Int.lt_or_le (Lib.indexByte (t.extract p t.size).data.toList 32) 0 with h | h
  · exact h
  · exfalso
    obtain ⟨o, ho⟩ : ∃ o : Nat, Lib.indexByte (t.extract p t.size).data.toList 32 = o := ⟨_, (Int.toNat_of_nonneg h).symm⟩
    have h1 := (Lib.indexByte_some ho).1
    rw [suf_at] at h1
    obtain ⟨hlt, _⟩ := List.getElem?_eq_some_iff.1 h1
    have hlt' : p + o < t.size := by simpa using hlt
    rw [at_list t hlt'] at h1
    injection h1 with h3
    exact hno (p + o) hlt' (by omega) (by rw [h3]; rfl)
theorem ext_ext (t : ByteArray) {p a b : Nat} (h : p + b ≤ t.size) : (t.extract p t.size).extract a b = t.extract (p + a) (p + b) := by
  apply ByteArray.ext
  rw [ByteArray.data_extract, ByteArray.data_extract, ByteArray.data_extract, Array.extract_extract]
  congr 1
  have : t.data.size = t.size := rfl
  omega
theorem wl_found {t : ByteArray} {p i F : Nat} (hp : p ≤ i) (hi : i < t.size) (h32 : (t[i]).toNat = 32) (hno : ∀ (j : Nat) (h : j < t.size), p ≤ j → j < i → (t[j]).toNat ≠ 32) : wl (F + 1) (t.extract p t.size) = t.extract p i :: wl F (t.extract (i + 1) t.size) := by
  have e := bl_found hp hi h32 hno
  have hz : (t.extract p t.size).size = t.size - p := by rw [ByteArray.size_extract]; omega
  rw [wl, if_neg (by omega), e, Int.toNat_natCast, hz, ext_ext t (by omega), ext_ext t (by omega)]
  rw [show p + 0 = p by omega, show p + (i - p) = i by omega, show p + (i - p + 1) = i + 1 by omega, show p + (t.size - p) = t.size by omega]
theorem wl_none {t : ByteArray} {p F : Nat} (hno : ∀ (j : Nat) (h : j < t.size), p ≤ j → (t[j]).toNat ≠ 32) : wl F (t.extract p t.size) = [t.extract p t.size] := by
  cases F with
  | zero => rfl
  | succ F => rw [wl, if_pos (bl_none hno)]
theorem eqB_nil {c x : ByteArray} (hc : c.size ≠ 0) (hx : x.size = 0) : eqB x c = false := by
  unfold eqB
  rw [txt_nil hx, txt_list, txt_list]
  cases hd : c.data.toList with
  | nil => exact absurd (congrArg List.length hd) (by rw [Array.length_toList]; exact hc)
  | cons _ _ => rfl

set_option maxRecDepth 20000 in
set_option maxHeartbeats 4000000 in
theorem ramong_any (c t : ByteArray) (w : World) (hc : c.size ≠ 0) (ht : t.size < 1000000000) :
    Calls Tryd.prog 63 #[.string c, .string t] w fun e w' => e = .returned (.bool (am c t)) ∧ w' = w := by
  obtain ⟨D, HD⟩ : ∃ D, Hid (D = am c t) := ⟨_, rfl⟩
  rw [← HD.out]
  go_enter Tryd.func63, Tryd.ntmps63
  go_wp2_with fail
  go_loopw [5, 6] (fun vf vi wr => wr = w ∧ ∃ p i : Nat, vf = .int .i64 p ∧ vi = .int .i64 i ∧ p ≤ i ∧ i ≤ t.size + 1 ∧ Hid ((i ≤ t.size → ∃ F, D = ((wl (F + 1) (t.extract p t.size)).any fun x => eqB x c) ∧ t.size ≤ F + p) ∧ (∀ (j : Nat) (h : j < t.size), p ≤ j → j < i → (t[j]).toNat ≠ 32) ∧ (i = t.size + 1 → D = false))) (fun _ vi _ => t.size + 1 - (intOf vi).toNat)
  case atStart =>
    refine ⟨rfl, 0, 0, rfl, rfl, Nat.le_refl _, by omega, fun _ => ⟨t.size, ?_, by omega⟩, fun _ _ _ h => absurd h (by omega), fun h => absurd h (by omega)⟩
    rw [HD.out]
    unfold am wordsB
    rw [show t.extract 0 t.size = t from ByteArray.ext (by rw [ByteArray.data_extract]; exact Array.extract_size)]
  case round =>
    obtain ⟨rfl, p, i, rfl, rfl, hpi, hi, HR⟩ := hrel
    clear HD
    by_cases h1 : i = t.size + 1
    · have hD : D = false := HR.out.2.2 h1
      have h1' : ¬ (i : Int) ≤ (t.size : Int) := by omega
      have h1d : decide ((i : Int) ≤ (t.size : Int)) = false := decide_eq_false h1'
      subst hD
      clear HR
      go_wp2
      go_ret
      exact ⟨rfl, rfl⟩
    have h1' : (i : Int) ≤ (t.size : Int) := by omega
    obtain ⟨F, hD, hF⟩ := HR.out.1 (by omega)
    have HF : Hid (D = ((wl (F + 1) (t.extract p t.size)).any fun x => eqB x c) ∧ t.size ≤ F + p) := ⟨hD, hF⟩
    clear hD hF
    have hb1 : (p : Int) ≤ (i : Int) := by omega
    obtain ⟨i1, zi⟩ : ∃ i1 : Nat, (i : Int) + 1 = (i1 : Int) := ⟨i + 1, by omega⟩
    have hi1 : i1 = i + 1 := by omega
    have HI : Hid (i1 = i + 1) := hi1
    clear hi1
    by_cases h2 : i = t.size
    · subst h2
      have hw : D = eqB (t.extract p t.size) c := by
        rw [HF.out.1, wl_none (fun j hj hp => HR.out.2.1 j hj hp (by omega))]
        simp
      cases he : eqB (t.extract p t.size) c
      · have HN : Hid (D = false) := hw.trans he
        have he' : ((t.extract p t.size).toList == c.toList) = false := he
        clear hw he
        by_cases h3 : p < t.size
        · have h3' : (p : Int) < (t.size : Int) := by omega
          go_wp2_with fail
          go_roundw
          case rel => exact ⟨trivial, i1, i1, rfl, rfl, Nat.le_refl _, by have := HI.out; omega, fun h => absurd h (by have := HI.out; omega), fun j hj h4 h5 => absurd h4 (by omega), fun _ => HN.out⟩
          case measure => have := HI.out; simp [intOf]; omega
        · have h3' : ¬ (p : Int) < (t.size : Int) := by omega
          have h3d : decide ((p : Int) < (t.size : Int)) = false := decide_eq_false h3'
          go_wp2_with fail
          go_roundw
          case rel => exact ⟨trivial, i1, i1, rfl, rfl, Nat.le_refl _, by have := HI.out; omega, fun h => absurd h (by have := HI.out; omega), fun j hj h4 h5 => absurd h4 (by omega), fun _ => HN.out⟩
          case measure => have := HI.out; simp [intOf]; omega
      · have hD : D = true := hw.trans he
        have he' : ((t.extract p t.size).toList == c.toList) = true := he
        have h3 : p < t.size := by
          rcases Nat.lt_or_ge p t.size with h | h
          · exact h
          · exfalso
            rw [eqB_nil hc (by rw [ByteArray.size_extract]; omega)] at he
            cases he
        have h3' : (p : Int) < (t.size : Int) := by omega
        subst hD
        clear hw he HF HR
        go_wp2
        go_ret
        exact ⟨rfl, rfl⟩
    have hlt : i < t.size := by omega
    have hlt' : (i : Int) < (t.size : Int) := by omega
    have h2' : ((i : Int) == (t.size : Int)) = false := beq_eq_false_iff_ne.2 (by omega)
    have h2n : ¬ (i : Int) = (t.size : Int) := by omega
    by_cases h32 : (t[i]).toNat = 32
    · have h32' : (((t[i]).toNat : Int) == 32) = true := beq_iff_eq.2 (by omega)
      have hw : D = (eqB (t.extract p i) c || ((wl F (t.extract (i + 1) t.size)).any fun x => eqB x c)) := by
        rw [HF.out.1, wl_found hpi hlt h32 (fun j hj h4 h5 => HR.out.2.1 j hj h4 h5)]
        simp
      cases he : eqB (t.extract p i) c
      · have HN : Hid (∃ F', D = ((wl (F' + 1) (t.extract i1 t.size)).any fun x => eqB x c) ∧ t.size ≤ F' + i1) := by
          refine ⟨F - 1, ?_, ?_⟩
          · rw [hw, he, HI.out, show F - 1 + 1 = F by have := HF.out.2; omega]
            simp
          · have := HF.out.2; have := HI.out; omega
        have he' : ((t.extract p i).toList == c.toList) = false := he
        clear hw he
        by_cases h3 : p < i
        · have h3' : (p : Int) < (i : Int) := by omega
          go_wp2_with fail
          go_roundw
          case rel => exact ⟨trivial, i1, i1, rfl, rfl, Nat.le_refl _, by have := HI.out; omega, fun _ => HN.out, fun j hj h4 h5 => absurd h4 (by omega), fun h => absurd h (by have := HI.out; omega)⟩
          case measure => have := HI.out; simp [intOf]; omega
        · have h3' : ¬ (p : Int) < (i : Int) := by omega
          have h3d : decide ((p : Int) < (i : Int)) = false := decide_eq_false h3'
          go_wp2_with fail
          go_roundw
          case rel => exact ⟨trivial, i1, i1, rfl, rfl, Nat.le_refl _, by have := HI.out; omega, fun _ => HN.out, fun j hj h4 h5 => absurd h4 (by omega), fun h => absurd h (by have := HI.out; omega)⟩
          case measure => have := HI.out; simp [intOf]; omega
      · have hD : D = true := by rw [hw, he]; rfl
        have he' : ((t.extract p i).toList == c.toList) = true := he
        have h3 : p < i := by
          rcases Nat.lt_or_ge p i with h | h
          · exact h
          · exfalso
            rw [eqB_nil hc (by rw [ByteArray.size_extract]; omega)] at he
            cases he
        have h3' : (p : Int) < (i : Int) := by omega
        subst hD
        clear hw he HF HR
        go_wp2
        go_ret
        exact ⟨rfl, rfl⟩
    · have h32' : (((t[i]).toNat : Int) == 32) = false := beq_eq_false_iff_ne.2 (by omega)
      have h32n : ¬ ((t[i]).toNat : Int) = 32 := by omega
      have HN : Hid (∀ (j : Nat) (h : j < t.size), p ≤ j → j < i1 → (t[j]).toNat ≠ 32) := fun j hj h4 h5 => by
        have := HI.out
        by_cases e : j = i
        · subst e; exact h32
        · exact HR.out.2.1 j hj h4 (by omega)
      go_wp2_with fail
      go_roundw
      case rel => exact ⟨trivial, p, i1, rfl, rfl, by have := HI.out; omega, by have := HI.out; omega, fun _ => ⟨F, HF.out⟩, HN.out, fun h => absurd h (by have := HI.out; omega)⟩
      case measure => have := HI.out; simp [intOf]; omega


set_option maxRecDepth 100000 in
theorem sub_fin : ∀ (a : Fin 16) (b : Fin 256), (bits .and .u8 ((a.val : Nat) : Int) ((b.val : Nat) : Int) == ((a.val : Nat) : Int)) = (bits .andNot .u8 ((a.val : Nat) : Int) ((b.val : Nat) : Int) == 0) := by decide +kernel

set_option maxHeartbeats 2000000 in
theorem rholds_any (r : Rl) (kind : Nat) (t : ByteArray) (st : Nat) (w : World) (ht : t.size < 1000000000) (h15 : r.state ≤ 15) (hst : st < 256) :
    Calls Tryd.prog 57 #[(Value.agg #[.int .u8 (r.kind : Nat), .string r.cls, .int .u8 (r.state : Nat), .int .u8 (r.look.has : Nat), .int .u8 r.look.r, .int .u8 r.look.g, .int .u8 r.look.b, .int .u8 r.look.a, .int .u8 r.look.r2, .int .u8 r.look.g2, .int .u8 r.look.b2, .int .u8 r.look.a2, .bool r.look.bd, .int .i64 r.look.pad]), .int .u8 (kind : Nat), .string t, .int .u8 (st : Nat)] w fun e w' => e = .returned (.bool (hld r kind t st)) ∧ Below w.heap.size w w' := by
  have hA : r.cls.size ≠ 0 → Hid (∀ w, Calls Tryd.prog 63 #[.string r.cls, .string t] w fun e w' => e = .returned (.bool (am r.cls t)) ∧ w' = w) := fun hc w => ramong_any _ _ w hc ht
  have es := sub_fin ⟨r.state, by omega⟩ ⟨st, hst⟩
  simp only at es
  unfold hld
  rw [← es]
  generalize am r.cls t = b at *
  have HL : Hid (Below w.heap.size w (w.alloc (.cells (#[.int .u8 (r.kind : Nat), .string r.cls, .int .u8 (r.state : Nat), .int .u8 (r.look.has : Nat), .int .u8 r.look.r, .int .u8 r.look.g, .int .u8 r.look.b, .int .u8 r.look.a, .int .u8 r.look.r2, .int .u8 r.look.g2, .int .u8 r.look.b2, .int .u8 r.look.a2, .bool r.look.bd, .int .i64 r.look.pad]) 35))) := (Below.refl _ w).alloc (Nat.le_refl _) _
  have main : ∀ b1 b2 b3 : Bool, ((r.kind : Int) == 0) = b1 → ((r.kind : Int) == (kind : Int)) = b2 → (bits .and .u8 (r.state : Int) (st : Int) == (r.state : Int)) = b3 → Calls Tryd.prog 57 #[(Value.agg #[.int .u8 (r.kind : Nat), .string r.cls, .int .u8 (r.state : Nat), .int .u8 (r.look.has : Nat), .int .u8 r.look.r, .int .u8 r.look.g, .int .u8 r.look.b, .int .u8 r.look.a, .int .u8 r.look.r2, .int .u8 r.look.g2, .int .u8 r.look.b2, .int .u8 r.look.a2, .bool r.look.bd, .int .i64 r.look.pad]), .int .u8 (kind : Nat), .string t, .int .u8 (st : Nat)] w fun e w' => e = .returned (.bool ((b1 || b2) && b3 && (r.cls.size == 0 || b))) ∧ Below w.heap.size w w' := by
    intro b1 b2 b3 e1 e2 e3
    clear es
    obtain ⟨kd, cls, state, look⟩ := r
    simp only at *
    by_cases hz : cls.size = 0
    · obtain rfl := txt_nil hz
      clear hA
      have n3 : (ByteArray.empty.size == 0) = true := rfl
      rw [n3]
      cases b1 <;> cases b2 <;> cases b3
      all_goals
        go_enter Tryd.func57, Tryd.ntmps57
        go_wp2
        go_ret
        first
          | exact ⟨rfl, HL.out⟩
          | exact ⟨by simp [*], HL.out⟩
    · obtain ⟨n1, n2⟩ := txt_ne hz
      have n3 : (cls.size == 0) = false := beq_eq_false_iff_ne.2 hz
      have hA' := hA hz
      clear hA
      rw [n3]
      cases b1 <;> cases b2 <;> cases b3 <;> cases b
      all_goals
        go_enter Tryd.func57, Tryd.ntmps57
        go_wp2_with (go_at_call 63; refine (hA'.out _).mono ?_; rintro e w1 ⟨rfl, rfl⟩)
        go_ret
        first
          | exact ⟨rfl, HL.out⟩
          | exact ⟨by simp [*], HL.out⟩
  have := main _ _ _ rfl rfl rfl
  rw [show (!((r.kind : Int) != 0)) = ((r.kind : Int) == 0) by simp [bne], show (!((r.kind : Int) != (kind : Int))) = ((r.kind : Int) == (kind : Int)) by simp [bne]]
  exact this

set_option maxHeartbeats 1000000 in
theorem rorder_bad (rs : List Rl) (v : Value) (w : World) (hT : Tab w) (hv : Rules w v rs) (hs : ∀ r ∈ rs, r.cls.size ≤ 9223372036854775807 ∧ r.wf) (hb : chkR rs ≠ 0) :
    Calls Tryd.prog 18 #[v] w fun e w' => e = .returned (.tuple #[.slice none 0 0, .int .i64 (chkR rs)]) ∧ Below w.heap.size w w' := by
  have hC := rcheck_rules rs v w hT hv hs
  obtain ⟨oa, cap, rfl, _, _⟩ := hv
  have hb' : (chkR rs == 0) = false := beq_eq_false_iff_ne.2 hb
  clear hs hT
  generalize chkR rs = e0 at *
  go_enter Tryd.func18, Tryd.ntmps18
  go_wp2_with fail
  refine hC.mono ?_
  rintro e w1 ⟨rfl, hb⟩
  have HB : Hid (Below w.heap.size w w1) := hb
  clear hb hC
  go_wp2
  exact bodyPost_ret (v := .tuple #[.slice none 0 0, .int .i64 e0]) (by simp [results, Tryd.results18, go_sem]) rfl ⟨rfl, HB.out⟩

/-- The last number of an order whose rule holds and tells a thing. -/
def lastN (rs : List Rl) (kind : Nat) (t : ByteArray) (st fld : Nat) (f : Nat → Nat) : Nat → Int
  | 0 => -1
  | k + 1 => if (hAt rs kind t st (f k) && tells rs fld (f k)) = true then (f k : Int) else lastN rs kind t st fld f k

set_option maxRecDepth 20000 in
set_option maxHeartbeats 4000000 in
theorem rwhich_inner (rs : List Rl) (v : Value) (B : Nat) (f : Nat → Nat) (kind : Nat) (t : ByteArray) (st fld : Nat) (w : World) (hv : Rules w v rs) (hR : Row w B 0 rs.length f) (hf : ∀ i, i < rs.length → f i < rs.length) (ht : t.size < 1000000000) (h15 : ∀ r ∈ rs, r.state ≤ 15) (hst : st < 256) (hl : rs.length < 1000) :
    Calls Tryd.prog 41 #[v, .slice (some ⟨B, 0, none⟩) rs.length rs.length, .int .u8 (kind : Nat), .string t, .int .u8 (st : Nat), .int .u8 (fld : Nat)] w fun e w' => e = .returned (.int .i64 (lastN rs kind t st fld f rs.length)) ∧ Below w.heap.size w w' := by
  obtain ⟨oa, cap, rfl, hc, hg⟩ := hv
  have HG : Hid ((0 < rs.length → ∃ g o, oa = some ⟨g, o, none⟩ ∧ g < w.heap.size ∧ ∀ i (h : i < rs.length), RlAt w g (o + i * 14) rs[i]) ∧ Row w B 0 rs.length f ∧ (∀ i, i < rs.length → f i < rs.length)) := ⟨hg, hR, hf⟩
  have HO : Hid (∀ x (h : x < rs.length) w, Calls Tryd.prog 57 #[(Value.agg #[.int .u8 (rs[x].kind : Nat), .string rs[x].cls, .int .u8 (rs[x].state : Nat), .int .u8 (rs[x].look.has : Nat), .int .u8 rs[x].look.r, .int .u8 rs[x].look.g, .int .u8 rs[x].look.b, .int .u8 rs[x].look.a, .int .u8 rs[x].look.r2, .int .u8 rs[x].look.g2, .int .u8 rs[x].look.b2, .int .u8 rs[x].look.a2, .bool rs[x].look.bd, .int .i64 rs[x].look.pad]), .int .u8 (kind : Nat), .string t, .int .u8 (st : Nat)] w fun e w' => e = .returned (.bool (hld rs[x] kind t st)) ∧ Below w.heap.size w w') := fun x h w => rholds_any _ kind t st w ht (h15 _ (List.getElem_mem h)) hst
  clear hg hR hf h15
  go_enter Tryd.func41, Tryd.ntmps41
  go_wp2_with fail
  go_loopw [13, 14] (fun va vi wr => ∃ k : Nat, k ≤ rs.length ∧ va = .int .i64 (lastN rs kind t st fld f k) ∧ vi = .int .i64 k ∧ Hid (Below w.heap.size w wr)) (fun _ vi _ => rs.length - (intOf vi).toNat)
  case atStart => exact ⟨0, Nat.zero_le _, rfl, rfl, Below.refl _ _⟩
  case round =>
    obtain ⟨k, hk, rfl, rfl, HL⟩ := hrel
    by_cases hlt : k < rs.length
    · have ik : (k : Int) < (rs.length : Int) := by omega
      have hx := HG.out.2.2 k hlt
      have ix : ((f k : Nat) : Int) < (rs.length : Int) := by omega
      have c1 : wr.cell? ⟨B, k, none⟩ = some (.int .i64 (f k)) := by
        have h := HG.out.2.1.at' k hlt
        rw [Nat.zero_add] at h
        exact (HL.out.cell (p := ⟨B, k, none⟩) HG.out.2.1.lt).trans h
      have lB : B < wr.heap.size := Nat.lt_of_lt_of_le HG.out.2.1.lt HL.out.size
      obtain ⟨g, o, rfl, hg, hat⟩ := HG.out.1 (by omega)
      have hq := (hat (f k) hx).kept (w' := wr) fun j => HL.out.cell (p := ⟨g, j, none⟩) hg
      have HO' := HO.out (f k) hx
      have HH : Hid (∀ w, Calls Tryd.prog 57 #[(Value.agg #[.int .u8 (rs[f k].kind : Nat), .string rs[f k].cls, .int .u8 (rs[f k].state : Nat), .int .u8 (rs[f k].look.has : Nat), .int .u8 rs[f k].look.r, .int .u8 rs[f k].look.g, .int .u8 rs[f k].look.b, .int .u8 rs[f k].look.a, .int .u8 rs[f k].look.r2, .int .u8 rs[f k].look.g2, .int .u8 rs[f k].look.b2, .int .u8 rs[f k].look.a2, .bool rs[f k].look.bd, .int .i64 rs[f k].look.pad]), .int .u8 (kind : Nat), .string t, .int .u8 (st : Nat)] w fun e w' => e = .returned (.bool (hld rs[f k] kind t st)) ∧ Below w.heap.size w w') := HO'
      have hT : (bits .and .u8 (rs[f k].look.has : Int) (fld : Int) != 0) = tells rs fld (f k) := by unfold tells; rw [List.getElem?_eq_getElem hx]
      have hN : Hid (lastN rs kind t st fld f (k + 1) = if (hld rs[f k] kind t st && tells rs fld (f k)) = true then (f k : Int) else lastN rs kind t st fld f k) := by
        have e : hAt rs kind t st (f k) = hld rs[f k] kind t st := by unfold hAt; rw [List.getElem?_eq_getElem hx]
        show (if (hAt rs kind t st (f k) && tells rs fld (f k)) = true then (f k : Int) else lastN rs kind t st fld f k) = _
        rw [e]
      clear hat HO' HO
      generalize tells rs fld (f k) = b2 at *
      generalize hld rs[f k] kind t st = b1 at *
      generalize lastN rs kind t st fld f k = q at *
      generalize rs[f k] = X at *
      obtain ⟨x0, x1, x2, x3, x4, x5, x6, x7, x8, x9, x10, x11, x12, x13⟩ := hq
      have KX := Blk.new wr (#[.int .u8 (X.kind : Nat), .string X.cls, .int .u8 (X.state : Nat), .int .u8 (X.look.has : Nat), .int .u8 X.look.r, .int .u8 X.look.g, .int .u8 X.look.b, .int .u8 X.look.a, .int .u8 X.look.r2, .int .u8 X.look.g2, .int .u8 X.look.b2, .int .u8 X.look.a2, .bool X.look.bd, .int .i64 X.look.pad]) 35
      have HX : Hid (Blk (wr.alloc (.cells (#[.int .u8 (X.kind : Nat), .string X.cls, .int .u8 (X.state : Nat), .int .u8 (X.look.has : Nat), .int .u8 X.look.r, .int .u8 X.look.g, .int .u8 X.look.b, .int .u8 X.look.a, .int .u8 X.look.r2, .int .u8 X.look.g2, .int .u8 X.look.b2, .int .u8 X.look.a2, .bool X.look.bd, .int .i64 X.look.pad]) 35)) wr.heap.size (#[.int .u8 (X.kind : Nat), .string X.cls, .int .u8 (X.state : Nat), .int .u8 (X.look.has : Nat), .int .u8 X.look.r, .int .u8 X.look.g, .int .u8 X.look.b, .int .u8 X.look.a, .int .u8 X.look.r2, .int .u8 X.look.g2, .int .u8 X.look.b2, .int .u8 X.look.a2, .bool X.look.bd, .int .i64 X.look.pad]) 35 ∧ Below w.heap.size w (wr.alloc (.cells (#[.int .u8 (X.kind : Nat), .string X.cls, .int .u8 (X.state : Nat), .int .u8 (X.look.has : Nat), .int .u8 X.look.r, .int .u8 X.look.g, .int .u8 X.look.b, .int .u8 X.look.a, .int .u8 X.look.r2, .int .u8 X.look.g2, .int .u8 X.look.b2, .int .u8 X.look.a2, .bool X.look.bd, .int .i64 X.look.pad]) 35)) ∧ (wr.alloc (.cells (#[.int .u8 (X.kind : Nat), .string X.cls, .int .u8 (X.state : Nat), .int .u8 (X.look.has : Nat), .int .u8 X.look.r, .int .u8 X.look.g, .int .u8 X.look.b, .int .u8 X.look.a, .int .u8 X.look.r2, .int .u8 X.look.g2, .int .u8 X.look.b2, .int .u8 X.look.a2, .bool X.look.bd, .int .i64 X.look.pad]) 35)).cell? ⟨B, k, none⟩ = some (.int .i64 (f k))) :=
        ⟨KX, HL.out.alloc HL.out.size _, (((Below.refl _ wr).alloc (Nat.le_refl _) (.cells (#[.int .u8 (X.kind : Nat), .string X.cls, .int .u8 (X.state : Nat), .int .u8 (X.look.has : Nat), .int .u8 X.look.r, .int .u8 X.look.g, .int .u8 X.look.b, .int .u8 X.look.a, .int .u8 X.look.r2, .int .u8 X.look.g2, .int .u8 X.look.b2, .int .u8 X.look.a2, .bool X.look.bd, .int .i64 X.look.pad]) 35)).cell (p := ⟨B, k, none⟩) lB).trans c1⟩
      clear KX
      go_wp2_with fail
      refine (HH.out _).mono ?_
      rintro e w2 ⟨rfl, h2⟩
      have K2 := HX.out.1.below h2
      have d1 : w2.cell? ⟨B, k, none⟩ = some (.int .i64 (f k)) := (h2.cell (p := ⟨B, k, none⟩) (by simp; omega)).trans HX.out.2.2
      have H2 : Hid (Below w.heap.size w w2) := HX.out.2.1.trans (h2.mono HX.out.2.1.size)
      obtain ⟨a0, a1, a2, a3, a4, a5, a6, a7, a8, a9, a10, a11, a12, a13⟩ := K2.at14
      clear K2 h2 HX x0 x1 x2 x3 x4 x5 x6 x7 x8 x9 x10 x11 x12 x13 c1 HH
      cases b1
      · have hN' : Hid (lastN rs kind t st fld f (k + 1) = q) := hN.out.trans (by simp)
        clear hN
        go_wp2_with fail
        go_roundw
        case rel => exact ⟨k + 1, by omega, by rw [hN'.out], by go_num, H2.out⟩
        case measure => simp [intOf]; omega
      · cases b2
        · have hN' : Hid (lastN rs kind t st fld f (k + 1) = q) := hN.out.trans (by simp)
          clear hN
          go_wp2_with fail
          go_roundw
          case rel => exact ⟨k + 1, by omega, by rw [hN'.out], by go_num, H2.out⟩
          case measure => simp [intOf]; omega
        · have hN' : Hid (lastN rs kind t st fld f (k + 1) = (f k : Int)) := hN.out.trans (by simp)
          clear hN
          go_wp2_with fail
          go_roundw
          case rel => exact ⟨k + 1, by omega, by rw [hN'.out], by go_num, H2.out⟩
          case measure => simp [intOf]; omega
    · obtain rfl : k = rs.length := by omega
      go_wp2
      go_ret
      exact ⟨rfl, HL.out⟩

end Go.Proofs.YtobmpjmpffnoiaaDoor
