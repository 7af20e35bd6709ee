/-
  The call Strokes of parts.
-/
import Derived.Test.YtdbafcldpleogaaGreatDoorUN
namespace Go.Proofs.YtdbafcldpleogaaGreatDoor
open Go.RowKit

theorem row_base {w : World} {b b' : Nat} {e : TypeId} {s : Nat} {v : Value} {n : Nat} {xs : List Value} (h : w.ownsRow b e s v n xs) (hb : b' ≤ b) : w.ownsRow b' e s v n xs := by
  refine ⟨h.1, ?_⟩
  rcases h.2 with h' | ⟨g, cap, cur, h1, h2, rest⟩
  · exact .inl h'
  · exact .inr ⟨g, cap, cur, h1, Nat.le_trans hb h2, rest⟩
theorem s_row_set {w : World} {b : Nat} {e : TypeId} {s : Nat} {v : Value} {n : Nat} {xs : List Value} (h : w.ownsRow b e s v n xs) (p : Addr) (x : Value) (hp : p.block < b) : (w.setCell p x).ownsRow b e s v n xs := by
  refine ⟨h.1, ?_⟩
  rcases h.2 with h' | ⟨g, cap, cur, h1, h2, hg, rest⟩
  · exact .inl h'
  · exact .inr ⟨g, cap, cur, h1, h2, same_set hg (by omega), rest⟩

set_option maxHeartbeats 1000000 in
theorem ansR_strokes (c0 c1 c2 : Value) (l : List Sk) (w : World)
    (hf : ∀ w', Below w.heap.size w w' → w.heap.size < w'.heap.size → Calls Tryz.prog 67 #[c0, c1, c2] w' fun e w'' => ∃ v, e = .returned v ∧ w''.ownsRow w'.heap.size 79 15 v l.length (flatS l) ∧ Below w'.heap.size w' w'') :
    Calls Tryz.prog 66 #[.func (.func 67) #[] #[c0, c1, c2]] w fun e w' => ∃ v, e = .returned (.tuple #[v, .int .i64 0]) ∧ w'.ownsRow w.heap.size 79 15 v l.length (flatS l) ∧ Below w.heap.size w w' := by
  have hmf : ∀ (fn : Fn) (first cap : Array Value) (w : World), (Instr.makeFunc fn first cap).run Tryz.prog w = .ok (.func fn first cap) w := fun _ _ _ _ => rfl
  have HF : Hid (∀ w', Below w.heap.size w w' → w.heap.size < w'.heap.size → Calls Tryz.prog 67 #[c0, c1, c2] w' fun e w'' => ∃ v, e = .returned v ∧ w''.ownsRow w'.heap.size 79 15 v l.length (flatS l) ∧ Below w'.heap.size w' w'') := hf
  clear hf
  go_enter_defers Tryz.func66, Tryz.ntmps66
  go_wp2_with fail
  obtain ⟨W, hW⟩ : ∃ W, W = w.alloc (.cells #[.int .i64 0] 39) := ⟨_, rfl⟩
  rw [← hW]
  have B : Blk W w.heap.size #[.int .i64 0] 39 := by rw [hW]; exact Blk.new _ _ _
  have L : Below w.heap.size w W := by rw [hW]; exact (Below.refl _ w).alloc (Nat.le_refl _) _
  clear hW
  have HB : Hid (w.heap.size < W.heap.size) := B.lt
  refine (HF.out W L B.lt).mono ?_
  rintro e w1 ⟨v, rfl, hown, hb⟩
  replace B := B.below hb
  replace L := L.trans (hb.mono L.size)
  clear hb HF
  have b0 := B.cell 0
  have fb := B.frozen
  have HL : Hid (Below w.heap.size w w1 ∧ w1.ownsRow W.heap.size 79 15 v l.length (flatS l)) := ⟨L, hown⟩
  clear B L hown
  go_wp2_with fail
  refine leaves_cons (f := 88) (args := #[.pointer (some ⟨w.heap.size, 0, none⟩)]) (by simp) (by simp [go_sem]) ?_
  refine (catch_strokes _ _).mono ?_
  rintro e u' w'' ⟨rfl, rfl, rfl⟩
  refine ⟨.tuple #[v, .int .i64 0], ?_, v, rfl, row_base (s_row_set HL.out.2 _ _ HB.out) (Nat.le_of_lt HB.out), ?_⟩
  · simp [results, Tryz.results66, go_sem, b0]
  · exact HL.out.1.setCell (Nat.le_refl _) _

theorem str1_any (p : Pt) (b g q y : Nat) (r : Rc) (k : Lk) (w : World) (h : PtIn w b p) (ht : p.t.pai = true) (hx : I64 r.x) (hy : I64 r.y) (hg : w.cell? ⟨g, 0, none⟩ = some (.iface p.t.id (.pointer (some ⟨b, 0, none⟩)))) (hq : At4 w q r.x r.y r.w r.h) {T : TypeId} (hl : Blk w y (#[.int .u8 (k.has : Nat), .int .u8 k.r, .int .u8 k.g, .int .u8 k.b, .int .u8 k.a, .int .u8 k.r2, .int .u8 k.g2, .int .u8 k.b2, .int .u8 k.a2, .bool k.bd, .int .i64 k.pad]) T) :
    Calls Tryz.prog 67 #[.pointer (some ⟨g, 0, none⟩), .pointer (some ⟨q, 0, none⟩), .pointer (some ⟨y, 0, none⟩)] w fun e w' => ∃ v, e = .returned v ∧ w'.ownsRow w.heap.size 79 15 v (paiL p.tx r k).length (flatS (paiL p.tx r k)) ∧ Below w.heap.size w w' := by
  have hm := h.str ht
  have hP := painting_any p.tx r k w hx hy
  obtain ⟨r0, r1, r2, r3⟩ := hq
  obtain ⟨k0, k1, k2, k3, k4, k5, k6, k7, k8, k9, k10⟩ := hl.look
  clear h ht hl hx hy
  go_enter Tryz.func67, Tryz.ntmps67
  go_wp2_with fail
  refine hP.mono ?_
  rintro e w1 ⟨v, rfl, hown, hb⟩
  go_wp2
  go_ret
  exact ⟨v, rfl, row_base hown (by omega), hb⟩

/-- What Strokes answers. -/
def strE (t : Ty) (r : Rc) (k : Lk) : Int := if t.pai = false then 8 else if mayB r.x r.y r.w r.h = false then 5 else if fromTo k.pad 0 16384 = false then 2 else 0
def strL (p : Pt) (r : Rc) (k : Lk) : List Sk := if strE p.t r k = 0 then paiL p.tx r k else []

theorem world3s (w : World) (r : Rc) (k : Lk) (v : Value) (W : World) (hW : W = ((w.alloc (.cells #[.int .i64 r.x, .int .i64 r.y, .int .i64 r.w, .int .i64 r.h] 63)).alloc (.cells (#[.int .u8 (k.has : Nat), .int .u8 k.r, .int .u8 k.g, .int .u8 k.b, .int .u8 k.a, .int .u8 k.r2, .int .u8 k.g2, .int .u8 k.b2, .int .u8 k.a2, .bool k.bd, .int .i64 k.pad]) 67)).alloc (.cells #[v] 98)) :
    At4 W w.heap.size r.x r.y r.w r.h ∧ Blk W (w.heap.size + 1) (#[.int .u8 (k.has : Nat), .int .u8 k.r, .int .u8 k.g, .int .u8 k.b, .int .u8 k.a, .int .u8 k.r2, .int .u8 k.g2, .int .u8 k.b2, .int .u8 k.a2, .bool k.bd, .int .i64 k.pad]) 67 ∧ Blk W (w.heap.size + 1 + 1) #[v] 98 ∧ Below w.heap.size w W := by
  subst hW
  refine ⟨((At4.new w r.x r.y r.w r.h 63).alloc _).alloc _, ?_, ?_, (((Below.refl w.heap.size w).alloc (Nat.le_refl _) _).alloc (by simp) _).alloc (by simp; omega) _⟩
  · have := (Blk.new (w.alloc (.cells #[.int .i64 r.x, .int .i64 r.y, .int .i64 r.w, .int .i64 r.h] 63)) (#[.int .u8 (k.has : Nat), .int .u8 k.r, .int .u8 k.g, .int .u8 k.b, .int .u8 k.a, .int .u8 k.r2, .int .u8 k.g2, .int .u8 k.b2, .int .u8 k.a2, .bool k.bd, .int .i64 k.pad]) 67).alloc (.cells #[v] 98)
    rwa [World.size_alloc] at this
  · have := Blk.new ((w.alloc (.cells #[.int .i64 r.x, .int .i64 r.y, .int .i64 r.w, .int .i64 r.h] 63)).alloc (.cells (#[.int .u8 (k.has : Nat), .int .u8 k.r, .int .u8 k.g, .int .u8 k.b, .int .u8 k.a, .int .u8 k.r2, .int .u8 k.g2, .int .u8 k.b2, .int .u8 k.a2, .bool k.bd, .int .i64 k.pad]) 67)) #[v] 98
    rwa [World.size_alloc, World.size_alloc] at this

set_option maxHeartbeats 2000000 in
theorem strokes_made (p : Pt) (b : Nat) (r : Rc) (k : Lk) (w : World) (h : PtIn w b p) (hk : kindB p.k = true) (hx : I64 r.x) (hy : I64 r.y) :
    Calls Tryz.prog 28 #[.iface p.t.id (.pointer (some ⟨b, 0, none⟩)), .agg #[.int .i64 r.x, .int .i64 r.y, .int .i64 r.w, .int .i64 r.h], (Value.agg #[.int .u8 (k.has : Nat), .int .u8 k.r, .int .u8 k.g, .int .u8 k.b, .int .u8 k.a, .int .u8 k.r2, .int .u8 k.g2, .int .u8 k.b2, .int .u8 k.a2, .bool k.bd, .int .i64 k.pad])] w fun e w' => ∃ v, e = .returned (.tuple #[v, .int .i64 (strE p.t r k)]) ∧ w'.ownsRow w.heap.size 79 15 v (strL p r k).length (flatS (strL p r k)) ∧ Below w.heap.size w w' := by
  have hmf : ∀ (fn : Fn) (first cap : Array Value) (w : World), (Instr.makeFunc fn first cap).run Tryz.prog w = .ok (.func fn first cap) w := fun _ _ _ _ => rfl
  have HM := pai_made p.t b p.k ((w.alloc (.cells #[.int .i64 r.x, .int .i64 r.y, .int .i64 r.w, .int .i64 r.h] 63)).alloc (.cells (#[.int .u8 (k.has : Nat), .int .u8 k.r, .int .u8 k.g, .int .u8 k.b, .int .u8 k.a, .int .u8 k.r2, .int .u8 k.g2, .int .u8 k.b2, .int .u8 k.a2, .bool k.bd, .int .i64 k.pad]) 67)) ((h.alloc _).alloc _).kind.1 hk
  have HP : Hid (PtIn w b p) := h
  have HX : Hid (I64 r.x ∧ I64 r.y) := ⟨hx, hy⟩
  have HK : Hid (∀ W, Calls Tryz.prog 64 #[.agg #[.int .i64 r.x, .int .i64 r.y, .int .i64 r.w, .int .i64 r.h]] W fun e w' => e = .returned (.int .i64 (chk r.x r.y r.w r.h)) ∧ Below W.heap.size W w') := fun W => check_any _ _ _ _ W hx hy
  have HV : Hid (∀ W, Calls Tryz.prog 65 #[.int .i64 k.pad, .int .i64 0, .int .i64 16384] W fun e w' => e = .returned (.bool (fromTo k.pad 0 16384)) ∧ w' = W) := fun W => pwithin_any _ _ _ W
  clear h hk hx hy
  cases hm : p.t.pai
  · rw [hm] at HM
    have e1 : strE p.t r k = 8 := by simp [strE, hm]
    have e2 : strL p r k = [] := by simp [strL, e1]
    rw [e1, e2]
    clear e1 e2 hm
    go_enter Tryz.func28, Tryz.ntmps28
    go_wp2_with fail
    refine HM.mono ?_
    rintro e w1 ⟨rfl, rfl⟩
    go_wp2
    exact bodyPost_ret (v := .tuple #[.slice none 0 0, .int .i64 8]) (by simp [results, Tryz.results28, go_sem]) rfl ⟨_, rfl, World.ownsRow_nil _ _ _ _, (world3s w r k .nilIface _ rfl).2.2.2⟩
  · rw [hm] at HM
    have HT : Hid (p.t.pai = true) := hm
    cases hz : mayB r.x r.y r.w r.h
    · have e1 : strE p.t r k = 5 := by simp [strE, hm, hz]
      have e2 : strL p r k = [] := by simp [strL, e1]
      rw [e1, e2]
      rw [show chk r.x r.y r.w r.h = 5 by simp [chk, hz]] at HK
      clear e1 e2 hm hz
      go_enter Tryz.func28, Tryz.ntmps28
      go_wp2_with fail
      refine HM.mono ?_
      rintro e w1 ⟨rfl, rfl⟩
      go_wp2_with fail
      refine (HK.out _).mono ?_
      rintro e w1 ⟨rfl, hb⟩
      obtain ⟨A, B, C, L⟩ := world3s w r k (.iface p.t.id (.pointer (some ⟨b, 0, none⟩))) _ rfl
      replace L := L.trans (hb.mono L.size)
      clear A B C hb HM
      go_wp2
      exact bodyPost_ret (v := .tuple #[.slice none 0 0, .int .i64 5]) (by simp [results, Tryz.results28, go_sem]) rfl ⟨_, rfl, World.ownsRow_nil _ _ _ _, L⟩
    · rw [show chk r.x r.y r.w r.h = 0 by simp [chk, hz]] at HK
      cases hf : fromTo k.pad 0 16384
      · have e1 : strE p.t r k = 2 := by simp [strE, hm, hz, hf]
        have e2 : strL p r k = [] := by simp [strL, e1]
        rw [e1, e2]
        rw [hf] at HV
        clear e1 e2 hm hz hf
        go_enter Tryz.func28, Tryz.ntmps28
        go_wp2_with fail
        refine HM.mono ?_
        rintro e w1 ⟨rfl, rfl⟩
        go_wp2_with fail
        refine (HK.out _).mono ?_
        rintro e w1 ⟨rfl, hb⟩
        obtain ⟨A, B, C, L⟩ := world3s w r k (.iface p.t.id (.pointer (some ⟨b, 0, none⟩))) _ rfl
        replace L := L.trans (hb.mono L.size)
        replace B := B.below hb
        have k10 := B.look.2.2.2.2.2.2.2.2.2.2
        clear A B C hb HM
        go_wp2_with fail
        refine (HV.out _).mono ?_
        rintro e w2 ⟨rfl, rfl⟩
        go_wp2
        exact bodyPost_ret (v := .tuple #[.slice none 0 0, .int .i64 2]) (by simp [results, Tryz.results28, go_sem]) rfl ⟨_, rfl, World.ownsRow_nil _ _ _ _, L⟩
      · have e1 : strE p.t r k = 0 := by simp [strE, hm, hz, hf]
        have e2 : strL p r k = paiL p.tx r k := by simp [strL, e1]
        rw [e1, e2]
        rw [hf] at HV
        clear e1 e2 hm hz hf
        go_enter Tryz.func28, Tryz.ntmps28
        go_wp2_with fail
        refine HM.mono ?_
        rintro e w1 ⟨rfl, rfl⟩
        go_wp2_with fail
        refine (HK.out _).mono ?_
        rintro e w1 ⟨rfl, hb⟩
        obtain ⟨A, B, C, L⟩ := world3s w r k (.iface p.t.id (.pointer (some ⟨b, 0, none⟩))) _ rfl
        replace L := L.trans (hb.mono L.size)
        replace A := A.below hb
        replace B := B.below hb
        replace C := C.below hb
        have k10 := B.look.2.2.2.2.2.2.2.2.2.2
        have HL : Hid (At4 w1 w.heap.size r.x r.y r.w r.h ∧ Blk w1 (w.heap.size + 1) (#[.int .u8 (k.has : Nat), .int .u8 k.r, .int .u8 k.g, .int .u8 k.b, .int .u8 k.a, .int .u8 k.r2, .int .u8 k.g2, .int .u8 k.b2, .int .u8 k.a2, .bool k.bd, .int .i64 k.pad]) 67 ∧ Blk w1 (w.heap.size + 1 + 1) #[.iface p.t.id (.pointer (some ⟨b, 0, none⟩))] 98 ∧ Below w.heap.size w w1) := ⟨A, B, C, L⟩
        clear A B C L hb HM
        go_wp2_with fail
        refine (HV.out _).mono ?_
        rintro e w2 ⟨rfl, rfl⟩
        go_wp2_with fail
        obtain ⟨A, B, C, L⟩ := HL.out
        refine (ansR_strokes _ _ _ (paiL p.tx r k) w2 (fun w3 hb _ => str1_any p b _ _ _ r k w3 ((HP.out.below L).below hb) HT.out HX.out.1 HX.out.2 ((C.below hb).cell 0) (A.below hb) (B.below hb))).mono ?_
        rintro e w3 ⟨v, rfl, hown, hb⟩
        have R3' : Hid (w3.ownsRow w2.heap.size 79 15 v (paiL p.tx r k).length (flatS (paiL p.tx r k)) ∧ Below w.heap.size w w3 ∧ w.heap.size ≤ w2.heap.size) := ⟨hown, L.trans (hb.mono L.size), L.size⟩
        clear A B C L hb hown k10 HL
        go_wp2
        exact bodyPost_ret (v := .tuple #[v, .int .i64 0]) (by simp [results, Tryz.results28, go_sem]) rfl ⟨v, rfl, row_base R3'.out.1 R3'.out.2.2, R3'.out.2.1⟩

end Go.Proofs.YtdbafcldpleogaaGreatDoor
