/-
  Tracks in a row, in plain lists: answers of the calls; beginnings.
-/
import Derived.Test.YthnhcphkpffkfaaGreatXA
namespace Go.Proofs.YthnhcphkpffkfaaGreat

def shL (T : List Tk) (room : Int) : List Int := if chT T = 0 then (if rmB room = true then shaR T room else []) else []
def shE (T : List Tk) (room : Int) : Int := if chT T = 0 then (if rmB room = true then 0 else 2) else chT T
def neN (T : List Tk) : Int := if chT T = 0 then mnS T else 0
def moN (T : List Tk) : Int := if chT T = 0 then mosI T else 0
/-- Beginnings, from a on. -/
def bgs (gap : Int) : Int → List Int → List Int
  | _, [] => []
  | a, x :: l => a :: bgs gap (a + x + gap) l
/-- Where the next one begins. -/
def bgE (gap : Int) : Int → List Int → Int
  | a, [] => a
  | a, x :: l => bgE gap (a + x + gap) l
theorem bgs_snoc (gap : Int) : ∀ (xs : List Int) (a x : Int), bgs gap a (xs ++ [x]) = bgs gap a xs ++ [bgE gap a xs]
  | [], _, _ => rfl
  | y :: l, a, x => by rw [List.cons_append, bgs, bgs_snoc gap l, bgs, bgE]; rfl
theorem bgE_snoc (gap : Int) : ∀ (xs : List Int) (a x : Int), bgE gap a (xs ++ [x]) = bgE gap a xs + x + gap
  | [], _, _ => rfl
  | y :: l, a, x => by rw [List.cons_append, bgE, bgE_snoc gap l, bgE]
theorem bgs_len (gap : Int) : ∀ (xs : List Int) (a : Int), (bgs gap a xs).length = xs.length
  | [], _ => rfl
  | y :: l, a => by rw [bgs, List.length_cons, List.length_cons, bgs_len gap l]
theorem bgE_bd (gap M : Int) (hg : 0 ≤ gap) : ∀ (xs : List Int) (a : Int), (∀ x ∈ xs, 0 ≤ x ∧ x ≤ M) → a ≤ bgE gap a xs ∧ bgE gap a xs ≤ a + xs.length * (M + gap)
  | [], a, _ => by rw [bgE]; simp
  | y :: l, a, h => by
    have h1 := bgE_bd gap M hg l (a + y + gap) fun x hx => h x (by simp [hx])
    have h2 := h y (by simp)
    rw [bgE]
    have e : (((y :: l).length : Nat) : Int) * (M + gap) = l.length * (M + gap) + (M + gap) := by rw [List.length_cons, Int.natCast_add, Int.add_mul, Int.natCast_one, Int.one_mul]
    rw [e]
    omega
def stL (xs : List Int) (gap : Int) : List Int := if chS xs = 0 then (if sdB gap = true then bgs gap 0 xs else []) else []
def stE (xs : List Int) (gap : Int) : Int := if chS xs = 0 then (if sdB gap = true then 0 else 2) else chS xs
/-- The room that is shared in a row. -/
def rwM (T : List Tk) (gap room : Int) : Int := room - min room (gap * max ((T.length : Int) - 1) 0)
def rwB (gap room : Int) : Bool := sdB gap && rmB room
def rwL (T : List Tk) (gap room : Int) : List Int := if chT T = 0 then (if rwB gap room = true then shaR T (rwM T gap room) else []) else []
def rwS (T : List Tk) (gap room : Int) : List Int := bgs gap 0 (rwL T gap room)
def rwE (T : List Tk) (gap room : Int) : Int := if chT T = 0 then (if rwB gap room = true then 0 else 2) else chT T
theorem shaR_len {T : List Tk} (hk : ∀ t ∈ T, okT t) (room : Int) : (shaR T room).length = T.length := by
  have := congrArg List.length (sha_tk hk room)
  unfold shaR
  simpa using this
theorem sumO_map : ∀ R : List Ce, (∀ c ∈ R, 0 ≤ c.o) → ∀ c ∈ R, c.o ≤ sumO R
  | [], _, c, h => by simp at h
  | d :: R, hp, c, h => by
    have h0 : ∀ R : List Ce, (∀ c ∈ R, 0 ≤ c.o) → 0 ≤ sumO R := by
      intro R
      induction R with
      | nil => intro _; exact Int.le_refl _
      | cons e R ih => intro h; have := ih fun c hc => h c (by simp [hc]); have := h e (by simp); rw [sumO]; omega
    rw [sumO]
    have h1 := h0 R fun c hc => hp c (by simp [hc])
    rcases List.mem_cons.1 h with rfl | h
    · omega
    · have := sumO_map R (fun c hc => hp c (by simp [hc])) c h
      have := hp d (by simp)
      omega
theorem shaC_ok {T : List Tk} (hk : ∀ t ∈ T, okT t) (room : Int) : ∀ c ∈ shaC T room, okT c.t := fun c hc => hk c.t (by rw [← sha_tk hk room]; exact List.mem_map.2 ⟨c, hc, rfl⟩)
theorem shaR_bd {T : List Tk} (hk : ∀ t ∈ T, okT t) (hn : T.length ≤ 1024) {room : Int} (hr : room ≤ 32768) : ∀ x ∈ shaR T room, 0 ≤ x ∧ x ≤ 16777216 := fun x hx => by
  unfold shaR at hx
  obtain ⟨c, hc, rfl⟩ := List.mem_map.1 hx
  have hp : ∀ c ∈ shaC T room, 0 ≤ c.o := fun c hc => by
    have h1 := (sha_lo hk room c hc).1
    obtain ⟨h2, _⟩ := shaC_ok hk room c hc
    omega
  refine ⟨hp c hc, ?_⟩
  have h1 := sumO_map _ hp c hc
  have h2 := sha_sum hk room
  have h3 := mnS_bd hk
  have h4 : sumO (shaC T room) ≤ max (mnS T) room := by
    rw [h2]
    split <;> omega
  omega
theorem shaR_nil (room : Int) : shaR [] room = [] := by
  have h := shaR_len (T := []) (fun t ht => by simp at ht) room
  exact List.length_eq_zero_iff.1 h
theorem rwM_bd {T : List Tk} {gap room : Int} (hn : T.length ≤ 1024) (hg : 0 ≤ gap ∧ gap ≤ 16384) (hr : 0 ≤ room ∧ room ≤ 32768) : 0 ≤ rwM T gap room ∧ rwM T gap room ≤ 32768 ∧ 0 ≤ gap * max ((T.length : Int) - 1) 0 ∧ gap * max ((T.length : Int) - 1) 0 ≤ 16777216 := by
  have h := Int.mul_nonneg hg.1 (show 0 ≤ max ((T.length : Int) - 1) 0 by omega)
  have h2 : gap * max ((T.length : Int) - 1) 0 ≤ 16384 * 1024 := Int.mul_le_mul hg.2 (by omega) (by omega) (by omega)
  unfold rwM
  omega
/-- What growers may have beyond their least. -/
def exS : List Tk → Int
  | [] => 0
  | t :: l => (if t.gr = 0 then 0 else t.mx - t.mn) + exS l
theorem exS_snoc : ∀ (l : List Tk) (t : Tk), exS (l ++ [t]) = exS l + if t.gr = 0 then 0 else t.mx - t.mn
  | [], t => by simp [exS]
  | d :: l, t => by rw [List.cons_append, exS, exS_snoc l t, exS]; omega
theorem topS_snoc : ∀ (l : List Tk) (t : Tk), topS (l ++ [t]) = topS l + topT t
  | [], t => by simp [topS]
  | d :: l, t => by rw [List.cons_append, topS, topS_snoc l t, topS]; omega
theorem top_ex : ∀ l : List Tk, topS l = mnS l + exS l
  | [] => rfl
  | t :: l => by
    rw [topS, mnS, exS, top_ex l]
    unfold topT
    split <;> omega
theorem anyB_snoc (l : List Tk) (t : Tk) : anyB (l ++ [t]) = (anyB l || (!(t.gr == 0) && t.mx == 0)) := by unfold anyB; simp [List.any_append]
theorem anyB_take {T : List Tk} {k : Nat} (h : anyB (T.take k) = true) : anyB T = true := by
  unfold anyB at h ⊢
  rw [List.any_eq_true] at h ⊢
  obtain ⟨t, ht, hp⟩ := h
  exact ⟨t, List.mem_of_mem_take ht, hp⟩
theorem exS_bd : ∀ {T : List Tk}, (∀ t ∈ T, okT t) → -(T.length * 16384) ≤ exS T ∧ exS T ≤ T.length * 16384
  | [], _ => by simp [exS]
  | t :: l, h => by
    have ih := exS_bd (T := l) fun d hd => h d (by simp [hd])
    obtain ⟨h1, h2, h3, _⟩ := h t (by simp)
    rw [exS, List.length_cons, Int.natCast_add]
    split <;> omega
theorem topS_bd : ∀ {T : List Tk}, (∀ t ∈ T, okT t) → 0 ≤ topS T ∧ topS T ≤ T.length * 16384
  | [], _ => by simp [topS]
  | t :: l, h => by
    have ih := topS_bd (T := l) fun d hd => h d (by simp [hd])
    obtain ⟨h1, h2, h3, _⟩ := h t (by simp)
    rw [topS, List.length_cons, Int.natCast_add]
    unfold topT
    split <;> omega

end Go.Proofs.YthnhcphkpffkfaaGreat
