/-
  Contract of package colour: Text.
-/
import Derived.Test.YtbppadheejdhcaaDoorCX1
import Derived.Test.YtbppadheejdhcaaDoorReg3
import Derived.Deep.AppendLies
import Derived.Deep.Onto
import Derived.Laws.IdiomStrings
import Derived.Laws.OwnMore
namespace Go.Proofs.YtbppadheejdhcaaDoor
open Go.RowKit

theorem add_at (g j : Nat) : (⟨g, 0, none⟩ : Addr).add j = ⟨g, j, none⟩ := by
  simp [Addr.add]
  intro h
  exact h.symm
theorem own_below {w w1 : World} {base : Nat} {e : TypeId} {size : Nat} {v : Value} {n : Nat} {xs : List Value} (h : w.ownsRow base e size v n xs) (hb : Below w.heap.size w w1) : w1.ownsRow base e size v n xs := by
  refine ⟨h.1, ?_⟩
  rcases h.2 with h' | ⟨g, cap, cur, h1, h2, hg, rest⟩
  · exact .inl h'
  · exact .inr ⟨g, cap, cur, h1, h2, by rw [hb.block g (Array.getElem?_eq_some_iff.1 hg).1]; exact hg, rest⟩
theorem info_u8 : (Tryd.prog.info? 5).map (fun i => (i.zero, i.size, i.bytes)) = some (some (.int .u8 0), 1, 1) := by kernel_rfl
theorem info_parts8 {P : Program} {t : TypeId} {z : Value} {s b : Nat} (h : (P.info? t).map (fun i => (i.zero, i.size, i.bytes)) = some (some z, s, b)) : ∃ i, P.info? t = some i ∧ i.zero = some z ∧ i.size = s ∧ i.bytes = b := by
  cases hi : P.info? t with
  | none => rw [hi] at h; simp at h
  | some i => rw [hi] at h; simp at h; exact ⟨i, rfl, h.1, h.2.1, h.2.2⟩

/-- The byte of the small sixteen that stands for a number. -/
def bt (n : Nat) : UInt8 := UInt8.ofNat (sx n)
theorem bt_nat {n : Nat} (h : n < 16) : ((bt n).toNat : Int) = ((sx n : Nat) : Int) := by
  have : (bt n).toNat = sx n := by
    unfold bt
    rw [UInt8.toNat_ofNat']
    unfold sx
    split <;> omega
  rw [this]
def tw (x : Nat) : Bool := sx (x / 16) == sx (x % 16)
def txtL (r g b a : Nat) : List UInt8 :=
  if a = 255 ∧ tw r = true ∧ tw g = true ∧ tw b = true then [35, bt (r % 16), bt (g % 16), bt (b % 16)]
  else if a = 255 then [35, bt (r / 16), bt (r % 16), bt (g / 16), bt (g % 16), bt (b / 16), bt (b % 16)]
  else [35, bt (r / 16), bt (r % 16), bt (g / 16), bt (g % 16), bt (b / 16), bt (b % 16), bt (a / 16), bt (a % 16)]
def txt (c : Co) : ByteArray := ⟨(txtL c.r.toNat c.g.toNat c.b.toNat c.a.toNat).toArray⟩

/-- What a row of bytes is as a text. -/
theorem conv_own {w : World} {base g n cap : Nat} {xs : List Value} (l : List UInt8) (h : w.ownsRow base 5 1 (.slice (some ⟨g, 0, none⟩) n cap) n xs) (hl : l.length = n) (hx : ∀ j (hj : j < l.length), xs[j]? = some (.int .u8 (l[j].toNat : Int))) :
    (convert 38 9 (.slice (some ⟨g, 0, none⟩) n cap)).run Tryd.prog w = .ok (.string ⟨l.toArray⟩) w := by
  subst hl
  refine run_convert_bytes_back w 38 9 5 ⟨g, 0, none⟩ cap l Tryd.underlying38 Tryd.underlying5 Tryd.underlying9 fun j hj => ?_
  rw [add_at, h.cellAt j (by omega)]
  exact hx j hj

set_option maxHeartbeats 1000000 in
theorem text_short (r g b : Nat) (w : World) (hr : r < 256) (hg : g < 256) (hb : b < 256) (t1 : tw r = true) (t2 : tw g = true) (t3 : tw b = true) :
    Calls Tryd.prog 6 #[.agg #[.int .u8 r, .int .u8 g, .int .u8 b, .int .u8 255]] w fun e w' => e = .returned (.string ⟨#[35, bt (r % 16), bt (g % 16), bt (b % 16)]⟩) ∧ Below w.heap.size w w' := by
  have hT : Hid (∀ x w, x < 256 → Calls Tryd.prog 20 #[.int .u8 ((x : Nat) : Int)] w fun e w' => e = .returned (.bool (tw x)) ∧ w' = w) := fun x w hx => isTwice_any x w hx
  have hL : Hid (∀ x w, x < 256 → Calls Tryd.prog 21 #[.int .u8 ((x : Nat) : Int)] w fun e w' => e = .returned (.int .u8 ((sx (x % 16) : Nat) : Int)) ∧ w' = w) := fun x w hx => low_any x w hx
  have HB : Hid (((bt (r % 16)).toNat : Int) = ((sx (r % 16) : Nat) : Int) ∧ ((bt (g % 16)).toNat : Int) = ((sx (g % 16) : Nat) : Int) ∧ ((bt (b % 16)).toNat : Int) = ((sx (b % 16) : Nat) : Int)) := ⟨bt_nat (Nat.mod_lt _ (by decide)), bt_nat (Nat.mod_lt _ (by decide)), bt_nat (Nat.mod_lt _ (by decide))⟩
  obtain ⟨i0, hi, hz0, hz1, hz2⟩ := info_parts8 info_u8
  go_enter Tryd.func6, Tryd.ntmps6
  go_wp2_with (go_at_call 20; refine (hT.out _ _ (by assumption)).mono ?_; rintro e w' ⟨rfl, rfl⟩)
  have A := AtC.new w r g b 255 25
  have L : Below w.heap.size w (w.alloc (.cells #[.int .u8 r, .int .u8 g, .int .u8 b, .int .u8 255] 25)) := (Below.refl _ w).alloc (Nat.le_refl _) _
  have sz : (w.alloc (.cells #[.int .u8 r, .int .u8 g, .int .u8 b, .int .u8 255] 25)).heap.size = w.heap.size + 1 := by simp
  generalize hX0 : w.alloc (.cells #[.int .u8 r, .int .u8 g, .int .u8 b, .int .u8 255] 25) = X0 at *
  have R0 := World.ownsRow_lit (base := X0.heap.size) (e := 5) (size := 1) X0 #[.int .u8 35] 1 (Nat.le_refl _) (by decide) rfl
  have Z0 : Below X0.heap.size X0 (X0.alloc (.cells #[.int .u8 35] 5)) := (Below.refl _ _).alloc (Nat.le_refl _) _
  rw [sz] at R0
  generalize hW0 : X0.alloc (.cells #[.int .u8 35] 5) = W0 at *
  have HW : Hid (AtC X0 w.heap.size ⟨r, g, b, 255⟩ ∧ Below w.heap.size w X0 ∧ Below X0.heap.size X0 W0 ∧ W0.ownsRow (w.heap.size + 1) 5 1 (.slice (some ⟨w.heap.size + 1, 0, none⟩) 1 1) 1 [.int .u8 35] ∧ X0.heap.size = w.heap.size + 1) := ⟨A, L, Z0, R0, sz⟩
  clear A L Z0 R0 hX0 hW0 sz
  refine R3.wp_region_lit 10 1 3 (fun _ b => .slice (some ⟨b, 0, none⟩) 3 3) (fun _ => .cells #[.int .u8 (sx (r % 16) : Nat), .int .u8 (sx (g % 16) : Nat), .int .u8 (sx (b % 16) : Nat)] 5) [33] (by kernel_rfl) (by kernel_rfl) rfl ?_ rfl ?_
  · intro k hk
    have hc : k = 0 := by omega
    subst hc; rfl
  apply Exists.intro
  refine ⟨fun bs ne => ?_, ?_, ?_⟩
  · obtain ⟨A, L, Z, _⟩ := HW.out
    have d0 := fun t : Gb W0 bs => (A.below (Z.trans (t.below.mono Z.size))).1
    have d1 := fun t : Gb W0 bs => (A.below (Z.trans (t.below.mono Z.size))).2.1
    have d2 := fun t : Gb W0 bs => (A.below (Z.trans (t.below.mono Z.size))).2.2.1
    clear A L Z
    simp only [List.take_succ_cons, List.take_zero]
    repeat (go_big_quiet_step (first
      | (go_at_call 21; exact gb_same (hL.out _ _ (by assumption)))))
    exact wpQuiet_nil rfl
  · intro i h1 h2
    have hc : i = 10 := by omega
    subst hc
    exact ⟨_, rfl, rfl, fun _ => by kernel_rfl⟩
  intro bl wr0 hbl hlo _
  obtain ⟨q1, q2⟩ := hlo 10 (by omega) (by omega)
  simp only [R3.layL]
  generalize bl 10 = g0 at *
  clear hlo
  obtain ⟨c1, _, _⟩ := heap_cells q2
  refine wpAny_one 11 (by kernel_rfl) rfl ?_
  intro K hK
  obtain ⟨A, L, Z, R, sz⟩ := HW.out
  replace R := own_below R hbl
  replace Z := Z.trans (hbl.mono Z.size)
  have zs : w.heap.size + 1 ≤ wr0.heap.size := by rw [← sz]; exact Z.size
  refine step_append_lies wr0 (by rfl) _ _ 38 (by rfl) (w.heap.size + 1) 5 i0 (.int .u8 0) 1 1 Tryd.underlying38 hi hz0 hz1 hz2 rfl (by decide) (.slice (some ⟨w.heap.size + 1, 0, none⟩) 1 1) 1 [.int .u8 35] (by rfl) R ⟨g0, 0, none⟩ 3 3 [.int .u8 (sx (r % 16) : Nat), .int .u8 (sx (g % 16) : Nat), .int .u8 (sx (b % 16) : Nat)] (by rfl) rfl ?_ ?_ (by decide) (by decide) (by decide) zs wr0.heap.size rfl ?_
  · intro j u hj
    rw [add_at g0 j, c1 j]
    simpa using hj
  · intro u hu
    simp at hu
    rcases hu with rfl | rfl | rfl <;> rfl
  intro h0 cap0 X1 hown hgrow _ _
  have L1 : Below w.heap.size w X1 := by
    have h2 := Z.grown hgrow Z.size (fun b hb => by have := (R.lt b hb).1; omega)
    exact L.trans (h2.mono L.size)
  have hcv := conv_own [35, bt (r % 16), bt (g % 16), bt (b % 16)] hown rfl (fun j hj => by
    simp only [List.length_cons, List.length_nil] at hj
    obtain ⟨e1, e2, e3⟩ := HB.out
    have hc : j = 0 ∨ j = 1 ∨ j = 2 ∨ j = 3 := by omega
    rcases hc with rfl | rfl | rfl | rfl
    · rfl
    · simp [e1]
    · simp [e2]
    · simp [e3])
  have HL : Hid (Below w.heap.size w X1) := L1
  clear A L Z R sz zs hown hgrow c1 q1 q2 hbl L1
  refine hK _ _ ?_
  clear hK K
  refine wpAny_one 12 (by kernel_rfl) rfl ?_
  intro K hK
  go_simp
  refine hK _ _ ?_
  clear hK K
  refine wpAny_one 13 (by kernel_rfl) rfl ?_
  intro K hK
  go_simp
  refine hK _ _ ?_
  clear hK K
  refine wpAny_done (by kernel_rfl) ?_ _
  go_wp2
  go_ret
  exact ⟨rfl, HL.out⟩

end Go.Proofs.YtbppadheejdhcaaDoor
