/-
  Colours in plain numbers: laid over one another, mixed, how light they are.
-/
namespace Go.Proofs.Ytbppadheejdhcaa

structure Co where
  r : Int
  g : Int
  b : Int
  a : Int

def By (x : Int) : Prop := 0 ≤ x ∧ x ≤ 255
def Co.ok (c : Co) : Prop := By c.r ∧ By c.g ∧ By c.b ∧ By c.a

/-- The number between two that their weights make of them. -/
def shr (x y p q : Int) : Int := (p * x + q * y + (p + q) / 2) / (p + q)
def fro (a : Co) : Int := 255 * a.a
def beh (a b : Co) : Int := (255 - a.a) * b.a
def overC (a b : Co) : Co :=
  if a.a = 0 then b else ⟨shr a.r b.r (fro a) (beh a b), shr a.g b.g (fro a) (beh a b), shr a.b b.b (fro a) (beh a b), (fro a + beh a b + 127) / 255⟩
def mixC (a b : Co) (p : Int) : Co := ⟨shr a.r b.r (255 - p) p, shr a.g b.g (255 - p) p, shr a.b b.b (255 - p) p, shr a.a b.a (255 - p) p⟩
def blackC : Co := ⟨0, 0, 0, 255⟩
def onB (c : Co) : Co := overC c blackC
def lightI (c : Co) : Int := (2126 * (onB c).r + 7152 * (onB c).g + 722 * (onB c).b) * 20 / 51
def clearL (l m : Int) : Bool := decide (45 * (min l m + 50000) ≤ 10 * (max l m + 50000))
def clearB (a b : Co) : Bool := clearL (lightI (onB b)) (lightI (overC a (onB b)))

theorem shr_between {x y p q : Int} (hp : 0 ≤ p) (hq : 0 ≤ q) (h : 0 < p + q) : min x y ≤ shr x y p q ∧ shr x y p q ≤ max x y := by
  have a1 : p * min x y ≤ p * x := Int.mul_le_mul_of_nonneg_left (by omega) hp
  have a2 : q * min x y ≤ q * y := Int.mul_le_mul_of_nonneg_left (by omega) hq
  have b1 : p * x ≤ p * max x y := Int.mul_le_mul_of_nonneg_left (by omega) hp
  have b2 : q * y ≤ q * max x y := Int.mul_le_mul_of_nonneg_left (by omega) hq
  have e1 : min x y * (p + q) = p * min x y + q * min x y := by rw [Int.mul_comm, Int.add_mul]
  have e2 : (max x y + 1) * (p + q) = p * max x y + q * max x y + (p + q) := by rw [Int.add_mul, Int.mul_comm, Int.add_mul]; omega
  unfold shr
  constructor
  · exact Int.le_ediv_of_mul_le h (by omega)
  · exact Int.lt_add_one_iff.1 (Int.ediv_lt_of_lt_mul h (by omega))

theorem shr_swap (x y p q : Int) : shr x y p q = shr y x q p := by
  unfold shr
  rw [Int.add_comm p q, Int.add_comm (p * x) (q * y)]

theorem shr_left (x y : Int) {p : Int} (h : 0 < p) : shr x y p 0 = x := by
  unfold shr
  have e : (x + 1) * p = p * x + p := by rw [Int.add_mul, Int.mul_comm]; omega
  have e' : x * p = p * x := Int.mul_comm _ _
  have h1 : x ≤ (p * x + 0 * y + (p + 0) / 2) / (p + 0) := Int.le_ediv_of_mul_le (by omega) (by simp only [Int.add_zero, Int.zero_mul]; omega)
  have h2 : (p * x + 0 * y + (p + 0) / 2) / (p + 0) < x + 1 := Int.ediv_lt_of_lt_mul (by omega) (by simp only [Int.add_zero, Int.zero_mul]; omega)
  omega
theorem shr_right (x y : Int) {q : Int} (h : 0 < q) : shr x y 0 q = y := by rw [shr_swap]; exact shr_left y x h

theorem shr_by {x y p q : Int} (hx : By x) (hy : By y) (hp : 0 ≤ p) (hq : 0 ≤ q) (h : 0 < p + q) : By (shr x y p q) := by
  have := shr_between (x := x) (y := y) hp hq h
  unfold By at *
  omega

/-- The weights. -/
theorem wts {a b : Co} (ha : a.ok) (hb : b.ok) : 0 ≤ fro a ∧ fro a ≤ 65025 ∧ 0 ≤ beh a b ∧ beh a b ≤ 65025 ∧ fro a + beh a b ≤ 65025 := by
  obtain ⟨_, _, _, a1, a2⟩ := ha
  obtain ⟨_, _, _, b1, b2⟩ := hb
  have h1 : 0 ≤ (255 - a.a) * b.a := Int.mul_nonneg (by omega) (by omega)
  have h2 : (255 - a.a) * b.a ≤ (255 - a.a) * 255 := Int.mul_le_mul_of_nonneg_left b2 (by omega)
  unfold fro beh
  omega
theorem wts_pos {a b : Co} (ha : a.ok) (hb : b.ok) (h : a.a ≠ 0) : 0 < fro a + beh a b := by
  have := wts ha hb
  obtain ⟨_, _, _, a1, a2⟩ := ha
  unfold fro at *
  omega

theorem over_ok {a b : Co} (ha : a.ok) (hb : b.ok) : (overC a b).ok := by
  unfold overC
  split
  · exact hb
  · rename_i h
    obtain ⟨w1, w2, w3, w4, w5⟩ := wts ha hb
    have w6 := wts_pos ha hb h
    exact ⟨shr_by ha.1 hb.1 w1 w3 w6, shr_by ha.2.1 hb.2.1 w1 w3 w6, shr_by ha.2.2.1 hb.2.2.1 w1 w3 w6, by unfold By; dsimp only; omega⟩
theorem black_ok : blackC.ok := ⟨⟨by decide, by decide⟩, ⟨by decide, by decide⟩, ⟨by decide, by decide⟩, ⟨by decide, by decide⟩⟩
theorem onB_ok {c : Co} (h : c.ok) : (onB c).ok := over_ok h black_ok
theorem mix_ok {a b : Co} {p : Int} (ha : a.ok) (hb : b.ok) (hp : By p) : (mixC a b p).ok := by
  obtain ⟨p1, p2⟩ := hp
  have k : ∀ {x y}, By x → By y → By (shr x y (255 - p) p) := fun hx hy => shr_by hx hy (by omega) (by omega) (by omega)
  exact ⟨k ha.1 hb.1, k ha.2.1 hb.2.1, k ha.2.2.1 hb.2.2.1, k ha.2.2.2 hb.2.2.2⟩
theorem light_bd {c : Co} (h : c.ok) : 0 ≤ lightI c ∧ lightI c ≤ 1000000 := by
  obtain ⟨⟨h1, h2⟩, ⟨h3, h4⟩, ⟨h5, h6⟩, _⟩ := onB_ok h
  unfold lightI
  omega

theorem over_opaque {a : Co} (b : Co) (h : a.a = 255) : overC a b = a := by
  unfold overC fro beh
  rw [if_neg (by omega), h]
  simp only [Int.sub_self, Int.zero_mul]
  rw [shr_left _ _ (by decide), shr_left _ _ (by decide), shr_left _ _ (by decide)]
  cases a
  simp_all
theorem onB_opaque {a : Co} (h : a.a = 255) : onB a = a := over_opaque _ h
theorem mix_zero (a b : Co) : mixC a b 0 = a := by
  unfold mixC
  simp only [Int.sub_zero]
  rw [shr_left _ _ (by decide), shr_left _ _ (by decide), shr_left _ _ (by decide), shr_left _ _ (by decide)]
theorem mix_all (a b : Co) : mixC a b 255 = b := by
  unfold mixC
  simp only [Int.sub_self]
  rw [shr_right _ _ (by decide), shr_right _ _ (by decide), shr_right _ _ (by decide), shr_right _ _ (by decide)]
theorem mix_swap (a b : Co) (p : Int) : mixC b a (255 - p) = mixC a b p := by
  unfold mixC
  rw [show (255 : Int) - (255 - p) = p by omega, shr_swap b.r, shr_swap b.g, shr_swap b.b, shr_swap b.a]
theorem over_a {a b : Co} (ha : a.ok) (hb : b.ok) : max a.a b.a ≤ (overC a b).a ∧ (b.a = 255 → (overC a b).a = 255) := by
  unfold overC
  split
  · obtain ⟨_, _, _, _, _⟩ := hb
    constructor
    · omega
    · exact id
  · have w := wts ha hb
    obtain ⟨_, _, _, a1, a2⟩ := ha
    obtain ⟨_, _, _, b1, b2⟩ := hb
    have e : (255 - a.a) * b.a = 255 * b.a - a.a * b.a := by rw [Int.sub_mul]
    have h1 : a.a * b.a ≤ a.a * 255 := Int.mul_le_mul_of_nonneg_left b2 a1
    constructor
    · unfold fro beh at *; dsimp only; omega
    · intro hb5
      unfold fro beh at *; dsimp only
      rw [hb5] at *
      omega

end Go.Proofs.Ytbppadheejdhcaa
