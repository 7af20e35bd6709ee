/-
  Tracks that share a room: the sharing as a list of numbers; the least, the most; beginnings.
-/
import Derived.Test.YtchjmmchflbfcaaXP2
namespace Go.Proofs.Ytchjmmchflbfcaa

def mnS : List Tk → Int
  | [] => 0
  | t :: l => t.mn + mnS l
def topT (t : Tk) : Int := if t.gr = 0 then t.mn else t.mx
def topS : List Tk → Int
  | [] => 0
  | t :: l => topT t + topS l
/-- One that grows without a top. -/
def anyB (l : List Tk) : Bool := l.any fun t => !(t.gr == 0) && t.mx == 0
def mosI (l : List Tk) : Int := if anyB l = true then -1 else topS l
def ini (l : List Tk) : List Ce := l.map fun t => ⟨t, decide (0 < t.gr), t.mn⟩
def shaC (l : List Tk) (room : Int) : List Ce := if room - mnS l ≤ 0 then ini l else shr (l.length + 1) (room - mnS l) (ini l)
/-- What each has. -/
def shaR (l : List Tk) (room : Int) : List Int := (shaC l room).map (·.o)
theorem ini_tk (l : List Tk) : (ini l).map (·.t) = l := by
  unfold ini
  rw [List.map_map]
  exact List.map_id'' (fun _ => rfl) l
theorem ini_sum : ∀ l : List Tk, sumO (ini l) = mnS l
  | [] => rfl
  | t :: l => by
    have := ini_sum l
    unfold ini at this ⊢
    rw [List.map_cons, sumO, mnS, this]
theorem ini_cnt : ∀ l : List Tk, cntP (ini l) ≤ l.length
  | [] => Nat.le_refl _
  | t :: l => by
    have := ini_cnt l
    unfold ini at this ⊢
    rw [List.map_cons, cntP, List.length_cons]
    split <;> omega
theorem ini_inv {l : List Tk} (hk : ∀ t ∈ l, okT t) {left : Int} (h0 : 0 ≤ left) : ShI left (ini l) := by
  refine ⟨h0, fun c hc => ?_⟩
  unfold ini at hc
  obtain ⟨t, ht, rfl⟩ := List.mem_map.1 hc
  have h := hk t ht
  refine ⟨h, fun hp => ⟨of_decide_eq_true hp, rfl⟩, fun hp => .inl ⟨?_, rfl⟩⟩
  have := of_decide_eq_false hp
  obtain ⟨_, _, _, h4, _⟩ := h
  show t.gr = 0
  omega
/-- What holds of all sharings. -/
theorem sha_tk {l : List Tk} (hk : ∀ t ∈ l, okT t) (room : Int) : (shaC l room).map (·.t) = l := by
  unfold shaC
  split
  · exact ini_tk l
  · have := (shr_fair (ini_inv hk (left := room - mnS l) (by omega)) (k := l.length + 1) (by have := ini_cnt l; omega)).tk
    rw [this, ini_tk]
theorem sha_lo {l : List Tk} (hk : ∀ t ∈ l, okT t) (room : Int) : ∀ c ∈ shaC l room, c.t.mn ≤ c.o ∧ (c.t.mn < c.o → 0 < c.t.gr) ∧ (c.t.mn < c.o → c.t.mx ≠ 0 → c.o ≤ c.t.mx) := by
  unfold shaC
  split
  · intro c hc
    unfold ini at hc
    obtain ⟨t, ht, rfl⟩ := List.mem_map.1 hc
    refine ⟨Int.le_refl _, fun h => absurd h (Int.lt_irrefl _), fun h => absurd h (Int.lt_irrefl _)⟩
  · exact (shr_fair (ini_inv hk (left := room - mnS l) (by omega)) (k := l.length + 1) (by have := ini_cnt l; omega)).lo
theorem sha_fr {l : List Tk} (hk : ∀ t ∈ l, okT t) (room : Int) : ∀ c ∈ shaC l room, ∀ d ∈ shaC l room, c.t.mn < c.o → 0 < d.t.gr → (d.t.mx = 0 ∨ d.o < d.t.mx) → (c.o - c.t.mn - 1) * d.t.gr < (d.o - d.t.mn + 1) * c.t.gr := by
  unfold shaC
  split
  · intro c hc
    unfold ini at hc
    obtain ⟨t, ht, rfl⟩ := List.mem_map.1 hc
    intro d _ h
    exact absurd h (Int.lt_irrefl _)
  · exact (shr_fair (ini_inv hk (left := room - mnS l) (by omega)) (k := l.length + 1) (by have := ini_cnt l; omega)).fr
theorem top_ge : ∀ {R : List Ce}, (∀ c ∈ R, okT c.t) → (∀ c ∈ R, c.t.mn ≤ c.o ∧ (c.t.mn < c.o → 0 < c.t.gr) ∧ (c.t.mn < c.o → c.t.mx ≠ 0 → c.o ≤ c.t.mx)) → anyB (R.map (·.t)) = false → sumO R ≤ topS (R.map (·.t))
  | [], _, _, _ => Int.le_refl _
  | c :: R, hk, h, ha => by
    rw [List.map_cons] at ha ⊢
    unfold anyB at ha
    rw [List.any_cons, Bool.or_eq_false_iff] at ha
    have ih := top_ge (R := R) (fun d hd => hk d (by simp [hd])) (fun d hd => h d (by simp [hd])) ha.2
    obtain ⟨h1, h2, h3⟩ := h c (by simp)
    obtain ⟨_, _, o3, _, _⟩ := hk c (by simp)
    rw [sumO, topS]
    have : c.o ≤ topT c.t := by
      unfold topT
      split
      · next hg => by_cases x : c.t.mn < c.o
                   · have := h2 x; omega
                   · omega
      · next hg =>
        have hm : c.t.mx ≠ 0 := fun e => by
          have := ha.1
          simp [hg, e] at this
        by_cases x : c.t.mn < c.o
        · exact h3 x hm
        · omega
    omega
theorem top_full : ∀ {R : List Ce}, (∀ c ∈ R, (c.t.gr = 0 ∧ c.o = c.t.mn) ∨ (0 < c.t.gr ∧ c.t.mx ≠ 0 ∧ c.o = c.t.mx)) → anyB (R.map (·.t)) = false ∧ sumO R = topS (R.map (·.t))
  | [], _ => ⟨rfl, rfl⟩
  | c :: R, h => by
    have ih := top_full (R := R) fun d hd => h d (by simp [hd])
    rw [List.map_cons]
    unfold anyB at ih ⊢
    rw [List.any_cons, ih.1, Bool.or_false, sumO, topS, ih.2]
    unfold topT
    rcases h c (by simp) with ⟨h1, h2⟩ | ⟨h1, h2, h3⟩
    · exact ⟨by simp [h1], by rw [if_pos h1, h2]⟩
    · exact ⟨by simp [h2], by rw [if_neg (by omega), h3]⟩
theorem min_top : ∀ {l : List Tk}, (∀ t ∈ l, okT t) → anyB l = false → mnS l ≤ topS l
  | [], _, _ => Int.le_refl _
  | t :: l, hk, ha => by
    unfold anyB at ha
    rw [List.any_cons, Bool.or_eq_false_iff] at ha
    have ih := min_top (l := l) (fun d hd => hk d (by simp [hd])) ha.2
    obtain ⟨_, _, o3, _, _⟩ := hk t (by simp)
    rw [mnS, topS]
    have : t.mn ≤ topT t := by
      unfold topT
      split
      · omega
      · next hg =>
        have hm : t.mx ≠ 0 := fun e => by
          have := ha.1
          simp [hg, e] at this
        omega
    omega
theorem top_nn : ∀ {l : List Tk}, (∀ t ∈ l, okT t) → 0 ≤ topS l
  | [], _ => Int.le_refl _
  | t :: l, hk => by
    have ih := top_nn (l := l) fun d hd => hk d (by simp [hd])
    obtain ⟨_, _, o3, _, _⟩ := hk t (by simp)
    rw [topS]
    unfold topT
    split <;> omega
/-- All room is used, as far as it can be. -/
theorem sha_sum {l : List Tk} (hk : ∀ t ∈ l, okT t) (room : Int) : sumO (shaC l room) = if 0 ≤ mosI l then min (max (mnS l) room) (mosI l) else max (mnS l) room := by
  have htk := sha_tk hk room
  have hlo := sha_lo hk room
  have hkc : ∀ c ∈ shaC l room, okT c.t := fun c hc => hk c.t (by rw [← htk]; exact List.mem_map.2 ⟨c, hc, rfl⟩)
  have htop : anyB l = false → sumO (shaC l room) ≤ topS l := fun ha => by
    have := top_ge hkc hlo (by rw [htk]; exact ha)
    rwa [htk] at this
  have hnn := top_nn hk
  have hmt := min_top hk
  have key : (sumO (shaC l room) = max (mnS l) room) ∨ (anyB l = false ∧ sumO (shaC l room) = topS l ∧ topS l ≤ max (mnS l) room) := by
    by_cases hr : room - mnS l ≤ 0
    · left
      have : shaC l room = ini l := by unfold shaC; rw [if_pos hr]
      rw [this, ini_sum]
      omega
    · have hf := shr_fair (ini_inv hk (left := room - mnS l) (by omega)) (k := l.length + 1) (by have := ini_cnt l; omega)
      have e : shaC l room = shr (l.length + 1) (room - mnS l) (ini l) := by unfold shaC; rw [if_neg hr]
      rw [← e, ini_sum] at hf
      rcases hf.sm with h | ⟨h1, h2⟩
      · left; omega
      · right
        have := top_full h2
        rw [htk] at this
        exact ⟨this.1, this.2, by omega⟩
  unfold mosI
  cases ha : anyB l with
  | true =>
    rw [if_pos rfl, if_neg (by omega)]
    rcases key with h | ⟨h, _⟩
    · exact h
    · rw [ha] at h; cases h
  | false =>
    have h1 := htop ha
    simp only [Bool.false_eq_true, if_false]
    rw [if_pos hnn]
    rcases key with h | ⟨_, h2, h3⟩ <;> omega

end Go.Proofs.Ytchjmmchflbfcaa
