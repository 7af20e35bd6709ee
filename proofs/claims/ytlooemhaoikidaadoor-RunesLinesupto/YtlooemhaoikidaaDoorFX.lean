/-
  Lines of a text, one behind the other: nothing is lost; none is wider than told.
-/
import Derived.Test.YtlooemhaoikidaaDoorFW
namespace Go.Proofs.YtlooemhaoikidaaDoor

theorem lnA_fit (room : Int) (N p : Nat) : ∀ (t P : List Pc) (n : Int) (b : Option Nat), n = wsum P → P ≠ [] → (2 ≤ room → wsum P ≤ room) → (∀ c, b = some c → ∃ P1 P2, P = P1 ++ P2 ∧ P1 ≠ [] ∧ c = endOf p P1) → Ch N p (P ++ t) →
    (lnA room N t n b = N ∧ (2 ≤ room → wsum (P ++ t) ≤ room)) ∨ ∃ pre rest, P ++ t = pre ++ rest ∧ pre ≠ [] ∧ rest ≠ [] ∧ lnA room N t n b = endOf p pre ∧ (2 ≤ room → wsum pre ≤ room)
  | [], P, n, b, _, _, hf, _, _ => .inl ⟨rfl, by rw [List.append_nil]; exact hf⟩
  | x :: t, P, n, b, hn, hP, hf, hb, hC => by
    obtain ⟨hx, _⟩ := Ch.app hC
    rw [lnA]
    by_cases c : room < n + width x.r
    · rw [if_pos c]
      have e1 : x.fr = endOf p P := hx.1
      by_cases h32 : x.r = 32
      · rw [if_pos h32]; exact .inr ⟨P, x :: t, rfl, hP, by simp, e1, hf⟩
      · rw [if_neg h32]
        cases b with
        | none => exact .inr ⟨P, x :: t, rfl, hP, by simp, e1, hf⟩
        | some c =>
          obtain ⟨P1, P2, e, h1, h2⟩ := hb c rfl
          refine .inr ⟨P1, P2 ++ x :: t, by rw [e]; simp, h1, by simp, h2, fun h => ?_⟩
          have := hf h
          rw [e, wsum_app] at this
          have := wsum_nn P2
          omega
    · rw [if_neg c]
      have e : P ++ x :: t = (P ++ [x]) ++ t := by simp
      rw [e] at hC ⊢
      have hw : n + width x.r = wsum (P ++ [x]) := by rw [wsum_app, hn]; simp [wsum]
      refine lnA_fit room N p t (P ++ [x]) _ _ hw (by simp) (fun _ => by omega) ?_ hC
      intro c hc
      by_cases h32 : x.r = 32
      · rw [if_pos h32] at hc
        injection hc with hc
        exact ⟨P ++ [x], [], by simp, by simp, by rw [endOf_app, ← hc]; rfl⟩
      · rw [if_neg h32] at hc
        obtain ⟨P1, P2, e, h1, h2⟩ := hb c hc
        exact ⟨P1, P2 ++ [x], by rw [e]; simp, h1, h2⟩
theorem lineA_fit (room : Int) (N p : Nat) (l : List Pc) (hl : l ≠ []) (hC : Ch N p l) : (lineA room N l = N ∧ (2 ≤ room → wsum l ≤ room)) ∨ ∃ pre rest, l = pre ++ rest ∧ pre ≠ [] ∧ rest ≠ [] ∧ lineA room N l = endOf p pre ∧ (2 ≤ room → wsum pre ≤ room) := by
  cases l with
  | nil => exact absurd rfl hl
  | cons x t =>
    rw [lineA]
    have hr := width_range x.r
    refine lnA_fit room N p t [x] _ _ (by simp [wsum]) (by simp) (fun h => by simp only [wsum]; omega) ?_ hC
    intro c hc
    by_cases h32 : x.r = 32
    · rw [if_pos h32] at hc
      injection hc with hc
      exact ⟨[x], [], rfl, by simp, by rw [← hc]; rfl⟩
    · rw [if_neg h32] at hc; cases hc

/-- Lines one behind the other, from p to N. -/
def chZ (N : Nat) : Nat → List (Nat × Nat × Int) → Prop
  | _, [] => False
  | p, q :: t => q.1 = p ∧ p ≤ q.2.1 ∧ ((t = [] ∧ q.2.1 = N) ∨ (q.2.1 < N ∧ chZ N q.2.1 t))
def zsum : List (Nat × Nat × Int) → Int
  | [] => 0
  | q :: t => q.2.2 + zsum t
theorem doc_facts (s : ByteArray) (room : Int) : ∀ (f p : Nat), p < s.size → (T s p).length ≤ f →
    chZ s.size p (docA room s.size f p (T s p)) ∧ zsum (docA room s.size f p (T s p)) = wsum (T s p) ∧ (2 ≤ room → ∀ q ∈ docA room s.size f p (T s p), q.2.2 ≤ room)
  | 0, p, hp, hf => absurd (List.eq_nil_of_length_eq_zero (by omega)) (T_nil hp)
  | f + 1, p, hp, hf => by
    have hch := T_ch s p (by omega)
    rw [docA]
    rcases lineA_fit room s.size p (T s p) (T_nil hp) hch with ⟨h, hw⟩ | ⟨pre, rest, e, hne, hre, h, hw⟩
    · rw [if_pos h]
      refine ⟨⟨rfl, by show p ≤ s.size; omega, .inl ⟨rfl, rfl⟩⟩, by simp [zsum], fun h2 q hq => ?_⟩
      rw [List.mem_singleton] at hq
      subst hq
      exact hw h2
    · obtain ⟨h1, h2⟩ := T_split s p (by omega) pre rest e hne
      have hch' := hch
      rw [e] at hch'
      obtain ⟨hcr, hle, _, hlt⟩ := Ch.app hch'
      have hend : endOf p pre < s.size := by
        cases rest with
        | nil => exact absurd rfl hre
        | cons y r => obtain ⟨y1, y2, y3, _⟩ := hcr; omega
      have htake : (T s p).takeWhile (fun x => decide (x.fr < lineA room s.size (T s p))) = pre := by
        rw [h, e]; exact take_to hch'
      have hdrop : (T s p).dropWhile (fun x => decide (x.fr < lineA room s.size (T s p))) = T s (lineA room s.size (T s p)) := by
        rw [h, ← h1, e]; exact drop_to hch'
      have hsum : wsum (T s p) = wsum pre + wsum (T s (endOf p pre)) := by rw [← h1, ← wsum_app, ← e]
      have hlen : (T s (endOf p pre)).length ≤ f := by
        have e4 : (T s p).length = pre.length + (T s (endOf p pre)).length := by rw [e, List.length_append, h1]
        have : 0 < pre.length := List.length_pos_iff.2 hne
        omega
      obtain ⟨i1, i2, i3⟩ := doc_facts s room f (endOf p pre) hend hlen
      rw [htake, hdrop, hsum]
      generalize lineA room s.size (T s p) = cut at *
      subst h
      rw [if_neg (by omega)]
      refine ⟨⟨rfl, hle, .inr ⟨hend, i1⟩⟩, ?_, fun h2 q hq => ?_⟩
      · show wsum pre + zsum _ = _
        rw [i2]
      · rcases List.mem_cons.1 hq with rfl | hq
        · exact hw h2
        · exact i3 h2 q hq

/-- The lines of a paragraph by their places. -/
theorem outP_doc (P : ByteArray) (room : Int) : ∃ Z, chZ P.size 0 Z ∧ outP P room = Z.map (fun q => P.extract q.1 q.2.1) ∧ zsum Z = sumC (pcs P) ∧ (∀ q ∈ Z, q.2.2 = sumC (pcs (P.extract q.1 q.2.1))) ∧ (2 ≤ room → ∀ q ∈ Z, q.2.2 ≤ room) := by
  by_cases h0 : 0 < P.size
  · have h := lines_doc P room (pcs P).length h0 (Nat.le_refl _)
    have hw := doc_width P room (pcs P).length 0 h0 (by rw [← pcs_T]; exact Nat.le_refl _)
    obtain ⟨f1, f2, f3⟩ := doc_facts P room (pcs P).length 0 h0 (by rw [← pcs_T]; exact Nat.le_refl _)
    rw [← pcs_T] at f1 f2 f3 hw
    refine ⟨_, f1, ?_, by rw [f2, sum_wsum], hw, f3⟩
    rw [← h, List.map_map]
    rfl
  · have e0 : P.size = 0 := by omega
    have hp : pcs P = [] := by
      have := T_len P 0 (by omega)
      rw [← pcs_T] at this
      exact List.eq_nil_of_length_eq_zero (by omega)
    have es : P.extract 0 0 = P := by
      have h : P.extract 0 P.size = P := ByteArray.ext (by rw [ByteArray.data_extract]; exact Array.extract_size)
      rwa [e0] at h
    refine ⟨[(0, 0, 0)], ⟨rfl, Nat.le_refl _, .inl ⟨rfl, e0.symm⟩⟩, ?_, ?_, ?_, ?_⟩
    · unfold outP linesOf
      rw [hp]
      rfl
    · rw [hp]; rfl
    · intro q hq
      rw [List.mem_singleton] at hq
      subst hq
      show (0 : Int) = sumC (pcs (P.extract 0 0))
      rw [es, hp]; rfl
    · intro h q hq
      rw [List.mem_singleton] at hq
      subst hq
      show (0 : Int) ≤ room
      omega

/-- Lines one behind the other in a text, a line end between paragraphs. -/
def Wk (s : ByteArray) : Bool → Nat → List ByteArray → Prop
  | _, a, [] => a = s.size
  | b, a, x :: t => ∃ p, (b = true → p = a) ∧ (b = false → ∃ h : a < s.size, ((s[a]).toNat = 10 ∧ p = a + 1) ∨ ((s[a]).toNat ≠ 10 ∧ p = a)) ∧ p + x.size ≤ s.size ∧ x = s.extract p (p + x.size) ∧ (∀ (j : Nat) (h : j < s.size), p ≤ j → j < p + x.size → (s[j]).toNat ≠ 10) ∧ Wk s false (p + x.size) t
def sums : List ByteArray → Int
  | [] => 0
  | x :: t => sumC (pcs x) + sums t
theorem sums_app (l m : List ByteArray) : sums (l ++ m) = sums l + sums m := by
  induction l with
  | nil => simp [sums]
  | cons a t ih => simp only [List.cons_append, sums, ih]; omega

theorem ext_in (s : ByteArray) {a b i j : Nat} (hj : a + j ≤ b) : (s.extract a b).extract i j = s.extract (a + i) (a + j) := by
  apply ByteArray.ext
  rw [ByteArray.data_extract, ByteArray.data_extract, ByteArray.data_extract, Array.extract_extract]
  congr 1
  omega
theorem ext_size (s : ByteArray) {a b : Nat} (hb : b ≤ s.size) : (s.extract a b).size = b - a := by rw [ByteArray.size_extract]; omega

/-- The lines of one paragraph, and what follows. -/
theorem wk_para (s : ByteArray) (a b : Nat) (hab : a ≤ b) (hb : b ≤ s.size) (hno : ∀ (j : Nat) (h : j < s.size), a ≤ j → j < b → (s[j]).toNat ≠ 10) (rest : List ByteArray)
    (hrest : Wk s false b rest) : ∀ (Z : List (Nat × Nat × Int)) (p : Nat) (bb : Bool), p ≤ b - a → (bb = false → a + p < b) → chZ (b - a) p Z → Wk s bb (a + p) (Z.map (fun q => (s.extract a b).extract q.1 q.2.1) ++ rest)
  | [], _, _, _, _, h => h.elim
  | q :: t, p, bb, hp, hbb, h => by
    obtain ⟨h1, h2, h3⟩ := h
    have hto : q.2.1 ≤ b - a := by rcases h3 with ⟨_, h⟩ | ⟨h, _⟩ <;> omega
    have e : (s.extract a b).extract q.1 q.2.1 = s.extract (a + p) (a + q.2.1) := by rw [h1]; exact ext_in s (by omega)
    have ez : (s.extract (a + p) (a + q.2.1)).size = q.2.1 - p := by rw [ext_size s (by omega)]; omega
    rw [List.map_cons, List.cons_append, e]
    refine ⟨a + p, fun _ => rfl, fun hf => ⟨by have := hbb hf; omega, .inr ⟨hno _ _ (by omega) (hbb hf), rfl⟩⟩, by rw [ez]; omega, ?_, ?_, ?_⟩
    · rw [ez, show a + p + (q.2.1 - p) = a + q.2.1 by omega]
    · intro j hj h4 h5
      exact hno j hj (by omega) (by rw [ez] at h5; omega)
    · rw [ez, show a + p + (q.2.1 - p) = a + q.2.1 by omega]
      rcases h3 with ⟨rfl, h⟩ | ⟨h, hc⟩
      · rw [h, show a + (b - a) = b by omega]
        exact hrest
      · exact wk_para s a b hab hb hno rest hrest t q.2.1 false (by omega) (fun _ => by omega) hc

set_option maxHeartbeats 2000000 in
/-- From the beginning of a paragraph on. -/
theorem wk_from (s : ByteArray) (room : Int) : ∀ (n p i : Nat), s.size - i ≤ n → p ≤ i → i ≤ s.size → (∀ (j : Nat) (h : j < s.size), p ≤ j → j < i → (s[j]).toNat ≠ 10) →
    outL (paras (s.extract p s.size)) room ≠ [] ∧ Wk s true p (outL (paras (s.extract p s.size)) room) ∧ sums (outL (paras (s.extract p s.size)) room) = wd (s.data.toList.drop p) ∧ (2 ≤ room → ∀ x ∈ outL (paras (s.extract p s.size)) room, sumC (pcs x) ≤ room)
  | n, p, i, hn, hpi, hi, hno => by
    have para : ∀ b, p ≤ b → b ≤ s.size → sums (outP (s.extract p b) room) = wd (s.extract p b).data.toList ∧ (2 ≤ room → ∀ x ∈ outP (s.extract p b) room, sumC (pcs x) ≤ room) ∧ outP (s.extract p b) room ≠ [] := by
      intro b _ _
      obtain ⟨Z, _, z2, z3, z4, z5⟩ := outP_doc (s.extract p b) room
      rw [z2, ← sum_wd, ← z3]
      refine ⟨?_, fun h x hx => ?_, ?_⟩
      · clear z2 z3 z5
        have : ∀ Z : List (Nat × Nat × Int), (∀ q ∈ Z, q.2.2 = sumC (pcs ((s.extract p b).extract q.1 q.2.1))) → sums (Z.map (fun q => (s.extract p b).extract q.1 q.2.1)) = zsum Z := by
          intro Z
          induction Z with
          | nil => intro _; rfl
          | cons q t ih =>
            intro h
            rw [List.map_cons, sums, zsum, ih (fun q hq => h q (by simp [hq])), h q (by simp)]
        exact this Z z4
      · obtain ⟨q, hq, rfl⟩ := List.mem_map.1 hx
        rw [← z4 q hq]
        exact z5 h q hq
      · intro he
        have h := outP_pos (s.extract p b) room
        rw [z2, he] at h
        exact absurd h (by simp)
    by_cases hlt : i < s.size
    · by_cases h10 : (s[i]).toNat = 10
      · rw [paras_found hpi hlt h10 hno, outL_cons]
        obtain ⟨p1, p2, p3⟩ := para i hpi hi
        obtain ⟨i1, i2, i3, i4⟩ := wk_from s room (n - 1) (i + 1) (i + 1) (by omega) (Nat.le_refl _) hlt (fun j _ h1 h2 => by omega)
        have hrest : Wk s false i (outL (paras (s.extract (i + 1) s.size)) room) := by
          generalize outL (paras (s.extract (i + 1) s.size)) room = R at i1 i2
          cases R with
          | nil => exact absurd rfl i1
          | cons x t =>
            obtain ⟨q, q1, _, q3, q4, q5, q6⟩ := i2
            exact ⟨q, (fun h => by cases h), (fun _ => ⟨hlt, .inl ⟨h10, q1 rfl⟩⟩), q3, q4, q5, q6⟩
        refine ⟨by simp [p3], ?_, ?_, fun h x hx => ?_⟩
        · obtain ⟨Z, z1, z2, _⟩ := outP_doc (s.extract p i) room
          rw [z2]
          rw [ext_size s hi] at z1
          exact wk_para s p i hpi hi hno _ hrest Z 0 true (Nat.zero_le _) (fun h => by cases h) z1
        · rw [sums_app, p1, i3]
          have e : s.data.toList.drop p = (s.extract p i).data.toList ++ 10 :: s.data.toList.drop (i + 1) := by
            have hx : s.data.toList.drop i = s[i] :: s.data.toList.drop (i + 1) := by
              rw [List.drop_eq_getElem_cons (by rw [size_L]; exact hlt)]
              rfl
            have h10' : s[i] = 10 := UInt8.toNat_inj.1 h10
            have h4 := (List.take_append_drop (i - p) (s.data.toList.drop p)).symm
            rw [List.drop_drop, show p + (i - p) = i by omega] at h4
            rw [← h10', ← hx, ByteArray.data_extract, Array.toList_extract, List.extract_eq_take_drop]
            exact h4
          rw [e, wd_app_nl _ _ _ (Nat.le_refl _)]
        · rcases List.mem_append.1 hx with hx | hx
          · exact p2 h x hx
          · exact i4 h x hx
      · exact wk_from s room (n - 1) p (i + 1) (by omega) (by omega) hlt (fun j hj h1 h2 => by
          rcases Nat.lt_or_eq_of_le (Nat.le_of_lt_succ h2) with h | rfl
          · exact hno j hj h1 h
          · exact h10)
    · obtain rfl : i = s.size := by omega
      rw [paras_none (fun j hj h1 => hno j hj h1 hj)]
      obtain ⟨p1, p2, p3⟩ := para s.size hpi (Nat.le_refl _)
      have e : outL [s.extract p s.size] room = outP (s.extract p s.size) room := by rw [outL_cons]; simp [outL]
      rw [e]
      refine ⟨p3, ?_, ?_, p2⟩
      · obtain ⟨Z, z1, z2, _⟩ := outP_doc (s.extract p s.size) room
        rw [z2]
        rw [ext_size s (Nat.le_refl _)] at z1
        have := wk_para s p s.size hpi (Nat.le_refl _) hno [] rfl Z 0 true (Nat.zero_le _) (fun h => by cases h) z1
        rwa [List.append_nil] at this
      · rw [p1, ByteArray.data_extract, Array.toList_extract, List.extract_eq_take_drop]
        congr 1
        rw [List.take_of_length_le]
        rw [List.length_drop, size_L]
        omega
  termination_by _ _ i => s.size - i

theorem lines_facts (s : ByteArray) (room : Int) : outL (paras s) room ≠ [] ∧ Wk s true 0 (outL (paras s) room) ∧ sums (outL (paras s) room) = sumC (pcs s) ∧ (2 ≤ room → ∀ x ∈ outL (paras s) room, sumC (pcs x) ≤ room) := by
  have h := wk_from s room s.size 0 0 (by omega) (Nat.le_refl _) (Nat.zero_le _) (fun j _ _ h => absurd h (Nat.not_lt_zero j))
  have e : s.extract 0 s.size = s := ByteArray.ext (by rw [ByteArray.data_extract]; exact Array.extract_size)
  rw [e, List.drop_zero, ← sum_wd] at h
  exact h

/-- A cut text is not wider than told. -/
theorem fit_pre : ∀ (l : List Pc) (room : Int) (e : Nat), 0 ≤ room → ∃ pre rest, l = pre ++ rest ∧ fitL l room e = endOf e pre ∧ wsum pre ≤ room
  | [], room, e, h => ⟨[], [], rfl, rfl, h⟩
  | x :: t, room, e, h => by
    rw [fitL]
    by_cases c : room - width x.r < 0
    · rw [if_pos c]; exact ⟨[], x :: t, rfl, rfl, h⟩
    · rw [if_neg c]
      obtain ⟨pre, rest, h1, h2, h3⟩ := fit_pre t (room - width x.r) x.to (by omega)
      exact ⟨x :: pre, rest, by rw [h1]; rfl, h2, by simp only [wsum]; omega⟩
theorem fit_wide (s : ByteArray) (room : Int) (h : 0 ≤ room) : sumC (pcs (s.extract 0 (fitL (pcs s) room 0))) ≤ room := by
  obtain ⟨pre, rest, h1, h2, h3⟩ := fit_pre (pcs s) room 0 h
  have hle := fit_le s room
  rw [h2] at hle
  rw [h2]
  by_cases hp : pre = []
  · subst hp
    have e : (s.extract 0 (endOf 0 [])).data.toList = [] := by
      show (s.extract 0 0).data.toList = []
      apply List.eq_nil_of_length_eq_zero
      rw [size_L, ByteArray.size_extract]
      omega
    rw [sum_wd, e, wd_nil]
    exact h
  · rw [pcs_head s pre rest h1 hp hle, sum_wsum]
    exact h3
theorem sumC_nn (s : ByteArray) : 0 ≤ sumC (pcs s) := by rw [sum_wsum]; exact wsum_nn _
theorem cut_facts (s : ByteArray) (cells : Int) (mark : ByteArray) : sumC (pcs (cutS s cells mark)) ≤ max cells 0 ∧ (cutB s cells = false → cutS s cells mark = s) := by
  unfold cutS cutB
  have hm := sumC_nn mark
  by_cases c1 : sumC (pcs s) ≤ max cells 0
  · rw [if_pos c1]; exact ⟨c1, fun _ => rfl⟩
  · rw [if_neg c1]
    refine ⟨?_, fun h => absurd (of_decide_eq_false h) (by omega)⟩
    by_cases c2 : max cells 0 < sumC (pcs mark)
    · rw [if_pos c2]; exact fit_wide s _ (by omega)
    · rw [if_neg c2]
      have h := fit_wide s (max cells 0 - sumC (pcs mark)) (by omega)
      generalize s.extract 0 (fitL (pcs s) (max cells 0 - sumC (pcs mark)) 0) = a at h
      have h2 := wd_app_le _ a.data.toList mark.data.toList (Nat.le_refl _)
      have e : (a ++ mark).data.toList = a.data.toList ++ mark.data.toList := by rw [ByteArray.data_append, Array.toList_append]
      rw [sum_wd, e]
      rw [sum_wd] at h hm
      rw [sum_wd mark] at *
      omega

end Go.Proofs.YtlooemhaoikidaaDoor
