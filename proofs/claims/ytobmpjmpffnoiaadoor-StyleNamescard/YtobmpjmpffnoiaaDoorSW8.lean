/-
  Contracts of package style: which rules hold.
-/
import Derived.Test.YtobmpjmpffnoiaaDoorSW7
import Derived.Test.YtobmpjmpffnoiaaDoorSR
import Derived.RangeFuncBox
namespace Go.Proofs.YtobmpjmpffnoiaaDoor
open Go.RowKit Go.Shelf
attribute [local go_sem] Oper.semAt_some

/-- Is a class among a text's words? -/
def eqB (x c : ByteArray) : Bool := x.toList == c.toList
def am (c t : ByteArray) : Bool := (wordsB t).any fun x => eqB x c

set_option maxHeartbeats 1000000 in
theorem isAmong_any (c t : ByteArray) (w : World) (ht : t.size < 1000000000) :
    Calls Tryd.prog 61 #[.string c, .string t] w fun e w' => e = .returned (.bool (am c t)) ∧ Below w.heap.size w w' := by
  refine (callsIn_wide (n := 3)).1 ?_
  refine callsIn_of_wp_marks Tryd.func61 rfl trivial ?_ rfl
  simp only [Tryd.ntmps61, List.size_toArray, List.length_cons, List.length_nil, Nat.reduceAdd, Nat.reduceSub, Array.replicate_succ, Array.replicate_zero, List.push_toArray, List.append_toArray, List.nil_append, List.cons_append]
  gi_wp2_with fail
  refine ⟨trivial, (callsIn_wide.2 (splitSeq_any t _)).mono ?_⟩
  rintro e w1 ⟨rfl, rfl⟩
  gi_wp2_with fail
  obtain ⟨W, hW⟩ : ∃ W, W = ((((w.alloc (.cells #[.string c] 9)).alloc (.cells #[.bool false] 4)).alloc (.cells #[.string t] 9)).alloc (.cells #[.string ⟨#[32]⟩] 9)).alloc (.cells #[.int .i64 0] 3) := ⟨_, rfl⟩
  have K0 := ((((Blk.new w #[.string c] 9).alloc (.cells #[.bool false] 4)).alloc (.cells #[.string t] 9)).alloc (.cells #[.string ⟨#[32]⟩] 9)).alloc (.cells #[.int .i64 0] 3)
  have K1 := (((Blk.new (w.alloc (.cells #[.string c] 9)) #[.bool false] 4).alloc (.cells #[.string t] 9)).alloc (.cells #[.string ⟨#[32]⟩] 9)).alloc (.cells #[.int .i64 0] 3)
  have K2 := ((Blk.new ((w.alloc (.cells #[.string c] 9)).alloc (.cells #[.bool false] 4)) #[.string t] 9).alloc (.cells #[.string ⟨#[32]⟩] 9)).alloc (.cells #[.int .i64 0] 3)
  have K3 := (Blk.new (((w.alloc (.cells #[.string c] 9)).alloc (.cells #[.bool false] 4)).alloc (.cells #[.string t] 9)) #[.string ⟨#[32]⟩] 9).alloc (.cells #[.int .i64 0] 3)
  have K4 := Blk.new ((((w.alloc (.cells #[.string c] 9)).alloc (.cells #[.bool false] 4)).alloc (.cells #[.string t] 9)).alloc (.cells #[.string ⟨#[32]⟩] 9)) #[.int .i64 0] 3
  have bW : Below w.heap.size w W := by
    rw [hW]; exact (((((Below.refl _ w).alloc (Nat.le_refl _) _).alloc (by simp) _).alloc (by simp; omega) _).alloc (by simp; omega) _).alloc (by simp; omega) _
  have sW : W.heap.size = w.heap.size + 5 := by rw [hW]; simp
  simp only [World.size_alloc] at K1 K2 K3 K4
  simp only [← hW] at K0 K1 K2 K3 K4 ⊢
  clear hW
  refine range_d (n := 3) (w := W) rfl (by omega) (gf := 72) (lb := #[.pointer (some ⟨w.heap.size + 1 + 1 + 1, 0, none⟩), .pointer (some ⟨w.heap.size + 1 + 1, 0, none⟩), .pointer (some ⟨w.heap.size + 1 + 1 + 1 + 1, 0, none⟩)]) rfl trivial (enters_of Tryd.func72 (by kernel_rfl) rfl) (ob := w.heap.size + 1 + 1) (by omega) (by omega)
    (split_seq 2 (w.heap.size + 1 + 1 + 1) (w.heap.size + 1 + 1) (w.heap.size + 1 + 1 + 1 + 1) t W (by omega) (by omega) K2 K3 K4 ht) (fun h k => h.trans k) (fun W l o o' _ hl hc hw => Kept.put W l o o' hl hc hw) (fun _ => rfl)
    (fun pre V => (pre.any fun x => eqB x c) = false ∧ Blk V w.heap.size #[.string c] 9 ∧ Blk V (w.heap.size + 1) #[.bool false] 4 ∧ Below w.heap.size w V)
    (fun cd pre V => (cd = .ret ∧ (pre.any fun x => eqB x c) = true) ∧ Blk V (w.heap.size + 1) #[.bool true] 4 ∧ Below w.heap.size w V)
    ?hI ?hIx ?hS ?hSx ⟨rfl, K0, K1, bW⟩
    (fun x a' _ => a' = { tmps := #[.string c, .string t, .pointer (some ⟨w.heap.size, 0, none⟩), undef, .pointer (some ⟨w.heap.size + 1, 0, none⟩), .string x, .string t, .func (.func 72) #[] #[.pointer (some ⟨w.heap.size + 1 + 1 + 1, 0, none⟩), .pointer (some ⟨w.heap.size + 1 + 1, 0, none⟩), .pointer (some ⟨w.heap.size + 1 + 1 + 1 + 1, 0, none⟩)], .string x, undef, undef, undef], defers := [] }) (fun x a' => ownFrom_pure _ (fun _ => _)) ?assign ?body ?done ?stop
  case hI => exact OwnFrom.and (ownFrom_pure _ _) (OwnFrom.and (kept_own _ _ _ _) (OwnFrom.and (kept_own _ _ _ _) (ownFrom_below (Nat.le_refl _) (by omega))))
  case hIx => exact fun _ => OwnFrom.and (ownFrom_pure _ _) (OwnFrom.and (kept_own _ _ _ _) (ownFrom_below (Nat.le_refl _) (by omega)))
  case hS =>
    rintro pre V o v ⟨p, a0, a1, a2⟩
    exact ⟨p, a0.other _ _ (by simp; omega), a1.other _ _ (by simp), a2.setCell (p := ⟨w.heap.size + 1 + 1, o, none⟩) (by simp; omega) _⟩
  case hSx =>
    rintro _ pre V o v ⟨p, a1, a2⟩
    exact ⟨p, a1.other _ _ (by simp), a2.setCell (p := ⟨w.heap.size + 1 + 1, o, none⟩) (by simp; omega) _⟩
  case assign =>
    intro l pre x V K hi hz hK
    gi_wp2
    exact hK _ _ ((KeepsOthers.refl _).from _) (Kept.refl _ _) hi rfl
  case body =>
    rintro l pre x a' V ⟨p, a0, a1, a2⟩ rfl hlen hz
    have c0 := a0.at1
    have c1 := a1.at1
    have f1 := a1.frozen 0
    have HA : Hid ((pre.any fun x => eqB x c) = false ∧ Blk V w.heap.size #[.string c] 9 ∧ Blk V (w.heap.size + 1) #[.bool false] 4 ∧ Below w.heap.size w V) := ⟨p, a0, a1, a2⟩
    clear p a0 a1 a2
    cases he : (x.toList == c.toList)
    · gi_wp2
      exact ⟨(KeepsOthers.refl _).from _, Kept.refl _ _, by rw [List.any_append, HA.out.1]; simp [eqB, he], HA.out.2⟩
    · gi_wp2
      obtain ⟨p, a0, a1, a2⟩ := HA.out
      exact ⟨(KeepsOthers.setCell _ _ _).from _, ⟨rfl, by rw [List.any_append]; simp [eqB, he]⟩, a1.put1 _, a2.setCell (p := ⟨w.heap.size + 1, 0, none⟩) (by simp) _⟩
  case done =>
    rintro D ys V hD rfl ⟨p, a0, a1, a2⟩ hK
    have f1 := a1.frozen 0
    have c1 := a1.at1
    have HA : Hid ((am c t) = false ∧ Blk V (w.heap.size + 1) #[.bool false] 4 ∧ Below w.heap.size w V) := ⟨p, a1, a2⟩
    clear p a0 a1 a2
    gi_wp2
    obtain ⟨p, a1, a2⟩ := HA.out
    have a3 := a1.put1 (.bool false)
    have hK' : (V.setCell ⟨w.heap.size + 1, 0, none⟩ (.bool false)).heap[D]? = some (.deferred (some [])) := same_set hK (by simp; omega)
    have c3 := (a3.left hK' (.deferred none)).at1
    rw [p]
    exact leaveD hK' (v := .bool false) (by simp [results, Tryd.results61, go_sem, c3]) ⟨rfl, below_left (a2.setCell (p := ⟨w.heap.size + 1, 0, none⟩) (by simp) _) (by omega) _⟩
  case stop =>
    rintro D cd pre V hD hp ⟨⟨rfl, p⟩, a1, a2⟩ hK
    have q : am c t = true := by
      obtain ⟨x, hx, hy⟩ := List.any_eq_true.1 p
      exact List.any_eq_true.2 ⟨x, hp.subset hx, hy⟩
    have c3 := (a1.left hK (.deferred none)).at1
    have HA : Hid (am c t = true ∧ Below w.heap.size w V) := ⟨q, a2⟩
    clear q p a1 a2
    gi_wp2
    rw [HA.out.1]
    exact leaveD hK (v := .bool true) (by simp [results, Tryd.results61, go_sem, c3]) ⟨rfl, below_left HA.out.2 (by omega) _⟩

/-- Does a rule hold? -/
def hld (r : Rl) (kind : Nat) (t : ByteArray) (st : Nat) : Bool := (!((r.kind : Int) != 0) || !((r.kind : Int) != (kind : Int))) && (bits .andNot .u8 (r.state : Int) (st : Int) == 0) && (r.cls.size == 0 || am r.cls t)

set_option maxHeartbeats 1000000 in
theorem holds_any (r : Rl) (kind : Nat) (t : ByteArray) (st : Nat) (w : World) (ht : t.size < 1000000000) :
    Calls Tryd.prog 51 #[(Value.agg #[.int .u8 (r.kind : Nat), .string r.cls, .int .u8 (r.state : Nat), .int .u8 (r.look.has : Nat), .int .u8 r.look.r, .int .u8 r.look.g, .int .u8 r.look.b, .int .u8 r.look.a, .int .u8 r.look.r2, .int .u8 r.look.g2, .int .u8 r.look.b2, .int .u8 r.look.a2, .bool r.look.bd, .int .i64 r.look.pad]), .int .u8 (kind : Nat), .string t, .int .u8 (st : Nat)] w fun e w' => e = .returned (.bool (hld r kind t st)) ∧ Below w.heap.size w w' := by
  have hA : Hid (∀ w, Calls Tryd.prog 61 #[.string r.cls, .string t] w fun e w' => e = .returned (.bool (am r.cls t)) ∧ Below w.heap.size w w') := fun w => isAmong_any _ _ w ht
  unfold hld
  generalize am r.cls t = b at *
  have A := Blk.new w (#[.int .u8 (r.kind : Nat), .string r.cls, .int .u8 (r.state : Nat), .int .u8 (r.look.has : Nat), .int .u8 r.look.r, .int .u8 r.look.g, .int .u8 r.look.b, .int .u8 r.look.a, .int .u8 r.look.r2, .int .u8 r.look.g2, .int .u8 r.look.b2, .int .u8 r.look.a2, .bool r.look.bd, .int .i64 r.look.pad]) 35
  have L : Below w.heap.size w (w.alloc (.cells (#[.int .u8 (r.kind : Nat), .string r.cls, .int .u8 (r.state : Nat), .int .u8 (r.look.has : Nat), .int .u8 r.look.r, .int .u8 r.look.g, .int .u8 r.look.b, .int .u8 r.look.a, .int .u8 r.look.r2, .int .u8 r.look.g2, .int .u8 r.look.b2, .int .u8 r.look.a2, .bool r.look.bd, .int .i64 r.look.pad]) 35)) := (Below.refl _ w).alloc (Nat.le_refl _) _
  have HL : Hid (Below w.heap.size w (w.alloc (.cells (#[.int .u8 (r.kind : Nat), .string r.cls, .int .u8 (r.state : Nat), .int .u8 (r.look.has : Nat), .int .u8 r.look.r, .int .u8 r.look.g, .int .u8 r.look.b, .int .u8 r.look.a, .int .u8 r.look.r2, .int .u8 r.look.g2, .int .u8 r.look.b2, .int .u8 r.look.a2, .bool r.look.bd, .int .i64 r.look.pad]) 35))) := L
  clear A L
  have main : ∀ b1 b2 b3 : Bool, ((r.kind : Int) != 0) = b1 → ((r.kind : Int) != (kind : Int)) = b2 → (bits .andNot .u8 (r.state : Int) (st : Int) == 0) = b3 → Calls Tryd.prog 51 #[(Value.agg #[.int .u8 (r.kind : Nat), .string r.cls, .int .u8 (r.state : Nat), .int .u8 (r.look.has : Nat), .int .u8 r.look.r, .int .u8 r.look.g, .int .u8 r.look.b, .int .u8 r.look.a, .int .u8 r.look.r2, .int .u8 r.look.g2, .int .u8 r.look.b2, .int .u8 r.look.a2, .bool r.look.bd, .int .i64 r.look.pad]), .int .u8 (kind : Nat), .string t, .int .u8 (st : Nat)] w fun e w' => e = .returned (.bool ((!b1 || !b2) && b3 && (r.cls.size == 0 || b))) ∧ Below w.heap.size w w' := by
    intro b1 b2 b3 e1 e2 e3
    obtain ⟨kd, cls, state, look⟩ := r
    simp only at *
    by_cases hz : cls.size = 0
    · obtain rfl := txt_nil hz
      have n3 : (ByteArray.empty.size == 0) = true := rfl
      rw [n3]
      cases b1 <;> cases b2 <;> cases b3
      all_goals
        go_enter Tryd.func51, Tryd.ntmps51
        go_wp2
        go_ret
        first
          | exact ⟨rfl, (Below.refl _ w).alloc (Nat.le_refl _) _⟩
          | exact ⟨by simp [*], (Below.refl _ w).alloc (Nat.le_refl _) _⟩
    · obtain ⟨n1, n2⟩ := txt_ne hz
      have n3 : (cls.size == 0) = false := beq_eq_false_iff_ne.2 hz
      rw [n3]
      cases b1 <;> cases b2 <;> cases b3
      all_goals
        go_enter Tryd.func51, Tryd.ntmps51
        go_wp2_with (go_at_call 61; refine (hA.out _).mono ?_; rintro e w1 ⟨rfl, hb⟩)
        go_ret
        first
          | exact ⟨rfl, (Below.refl _ w).alloc (Nat.le_refl _) _⟩
          | exact ⟨by simp [*], (Below.refl _ w).alloc (Nat.le_refl _) _⟩
          | exact ⟨rfl, ((Below.refl _ w).alloc (Nat.le_refl _) _).trans (Below.mono (by assumption) (by simp))⟩
          | exact ⟨by simp [*], ((Below.refl _ w).alloc (Nat.le_refl _) _).trans (Below.mono (by assumption) (by simp))⟩
  exact main _ _ _ rfl rfl rfl

end Go.Proofs.YtobmpjmpffnoiaaDoor
