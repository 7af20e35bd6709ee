/-
  The document's lines of a paragraph, line by line, are those that package runes finds in one go; the cells of a line's text are those that were counted.
-/
import Derived.Test.YtlooemhaoikidaaDoorFPa
import Derived.Test.YtlooemhaoikidaaDoorFT
import Derived.Test.YtlooemhaoikidaaDoorRL4
import Derived.Test.YtlooemhaoikidaaDoorRC
namespace Go.Proofs.YtlooemhaoikidaaDoor

/-- Where the document's line ends, in places of the whole text. -/
def lnA (room : Int) (N : Nat) : List Pc → Int → Option Nat → Nat
  | [], _, _ => N
  | x :: t, n, b => if room < n + width x.r then (if x.r = 32 then x.fr else b.getD x.fr) else lnA room N t (n + width x.r) (if x.r = 32 then some x.to else b)
def lineA (room : Int) (N : Nat) : List Pc → Nat
  | [] => N
  | x :: t => lnA room N t (width x.r) (if x.r = 32 then some x.to else none)
def wsum : List Pc → Int
  | [] => 0
  | x :: t => width x.r + wsum t
/-- The document's lines, in places of the whole text, as (beginning, end, cells). -/
def docA (room : Int) (N : Nat) : Nat → Nat → List Pc → List (Nat × Nat × Int)
  | 0, _, _ => []
  | f + 1, p, l => if lineA room N l = N then [(p, N, wsum l)] else (p, lineA room N l, wsum (l.takeWhile fun x => decide (x.fr < lineA room N l))) :: docA room N f (lineA room N l) (l.dropWhile fun x => decide (x.fr < lineA room N l))
/-- Where the last blank of pieces ends. -/
def lastB : List Pc → Option Nat
  | [] => none
  | x :: t => (lastB t).or (if x.r = 32 then some x.to else none)
theorem wsum_app (l m : List Pc) : wsum (l ++ m) = wsum l + wsum m := by
  induction l with
  | nil => simp [wsum]
  | cons a t ih => simp only [List.cons_append, wsum, ih]; omega
theorem wsum_nn (l : List Pc) : 0 ≤ wsum l := by
  induction l with
  | nil => exact Int.le_refl _
  | cons a t ih => have := (width_range a.r).1; simp only [wsum]; omega
theorem lastB_app (l m : List Pc) : lastB (l ++ m) = (lastB m).or (lastB l) := by
  induction l with
  | nil => simp [lastB]
  | cons a t ih =>
    simp only [List.cons_append, lastB, ih]
    cases lastB m <;> simp
theorem lnA_pass (room : Int) (N : Nat) (t : List Pc) : ∀ (P : List Pc) (n : Int) (b : Option Nat), n + wsum P ≤ room → 0 ≤ n → lnA room N (P ++ t) n b = lnA room N t (n + wsum P) ((lastB P).or b)
  | [], n, b, _, _ => by simp [wsum, lastB]
  | x :: P, n, b, h, hn => by
    have hx := width_range x.r
    have hp := wsum_nn P
    simp only [wsum] at h
    rw [List.cons_append, lnA, if_neg (by omega), lnA_pass room N t P _ _ (by omega) (by omega)]
    congr 1
    · simp only [wsum]; omega
    · simp only [lastB]
      by_cases h32 : x.r = 32
      · simp only [h32, if_true]; cases lastB P <;> simp
      · simp only [if_neg h32]; cases lastB P <;> simp
theorem lineA_pass (room : Int) (N : Nat) (t P : List Pc) (hP : P ≠ []) (h : P.length ≤ 1 ∨ wsum P ≤ room) : lineA room N (P ++ t) = lnA room N t (wsum P) (lastB P) := by
  cases P with
  | nil => exact absurd rfl hP
  | cons x P =>
    rw [List.cons_append, lineA]
    have hx := width_range x.r
    cases P with
    | nil => simp [wsum, lastB]
    | cons y P =>
      have h' : wsum (x :: y :: P) ≤ room := by
        rcases h with h | h
        · simp at h
        · exact h
      rw [lnA_pass room N t (y :: P) _ _ (by simpa [wsum] using h') hx.1]
      congr 1
/-- What is known of the line that is being filled: its pieces. -/
structure Fill (room : Int) (n : Ln) (P : List Pc) : Prop where
  ne : P ≠ []
  c : n.c = wsum P
  fit : P.length ≤ 1 ∨ wsum P ≤ room
  blank : (lastB P = none ∧ n.k = n.fr) ∨ (∃ P1 y P2, P = P1 ++ y :: P2 ∧ y.r = 32 ∧ lastB P2 = none ∧ n.k = y.to ∧ n.kc = wsum (P1 ++ [y]) ∧ n.fr < y.to)
def endOf (a : Nat) : List Pc → Nat
  | [] => a
  | x :: l => endOf x.to l
theorem Ch.app {N : Nat} : ∀ {a : Nat} {l m : List Pc}, Ch N a (l ++ m) → Ch N (endOf a l) m ∧ a ≤ endOf a l ∧ (∀ x ∈ l, x.fr < endOf a l) ∧ (l ≠ [] → a < endOf a l)
  | a, [], m, h => ⟨h, Nat.le_refl _, by simp, by simp⟩
  | a, x :: l, m, h => by
    obtain ⟨h1, h2, h3, h4⟩ := h
    obtain ⟨hb, hle, hx, _⟩ := Ch.app h4
    refine ⟨hb, show a ≤ endOf x.to l by omega, ?_, fun _ => show a < endOf x.to l by omega⟩
    intro y hy
    show y.fr < endOf x.to l
    rcases List.mem_cons.1 hy with rfl | hy
    · omega
    · exact hx y hy
theorem endOf_app : ∀ (a : Nat) (l m : List Pc), endOf a (l ++ m) = endOf (endOf a l) m
  | _, [], _ => rfl
  | _, x :: l, m => endOf_app x.to l m
theorem drop_to {N a : Nat} {l m : List Pc} (h : Ch N a (l ++ m)) : (l ++ m).dropWhile (fun x => decide (x.fr < endOf a l)) = m := by
  obtain ⟨hb, _, hx, _⟩ := Ch.app h
  rw [List.dropWhile_append_of_pos (by intro x hx'; simpa using hx x hx')]
  cases m with
  | nil => rfl
  | cons y m =>
    obtain ⟨e, _⟩ := hb
    rw [List.dropWhile_cons_of_neg (by simp; omega)]
theorem take_to {N a : Nat} {l m : List Pc} (h : Ch N a (l ++ m)) : (l ++ m).takeWhile (fun x => decide (x.fr < endOf a l)) = l := by
  obtain ⟨hb, _, hx, _⟩ := Ch.app h
  rw [List.takeWhile_append_of_pos (by intro x hx'; simpa using hx x hx')]
  cases m with
  | nil => simp
  | cons y m =>
    obtain ⟨e, _⟩ := hb
    rw [List.takeWhile_cons_of_neg (by simp; omega), List.append_nil]
def pr (l : Ln) : Nat × Nat × Int := (l.fr, l.to, l.c)
/-- A line that holds nothing yet. -/
def nil0 (a : Nat) : Ln := ⟨a, a, 0, a, 0⟩
theorem fill_one (room : Int) (x : Pc) (hx : x.fr < x.to) : Fill room (withL (nil0 x.fr) x) [x] := by
  refine ⟨by simp, by simp [withL, nil0, wsum], .inl (by simp), ?_⟩
  by_cases h : x.r = 32
  · exact .inr ⟨[], x, [], rfl, h, rfl, by simp [withL, h], by simp [withL, nil0, h, wsum], hx⟩
  · exact .inl ⟨by simp [lastB, h], by simp [withL, nil0, h]⟩
theorem fill_with {room : Int} {n : Ln} {P : List Pc} (h : Fill room n P) (x : Pc) (hx : n.fr < x.to) (hf : n.c + width x.r ≤ room) : Fill room (withL n x) (P ++ [x]) := by
  have hw : wsum (P ++ [x]) = n.c + width x.r := by rw [wsum_app, h.c]; simp [wsum]
  refine ⟨by simp, hw.symm, .inr (by omega), ?_⟩
  by_cases h32 : x.r = 32
  · exact .inr ⟨P, x, [], rfl, h32, rfl, by simp [withL, h32], by simp [withL, h32, hw], hx⟩
  · rcases h.blank with ⟨b1, b2⟩ | ⟨P1, y, P2, e, y32, b1, b2, b3, b4⟩
    · refine .inl ⟨?_, by simp [withL, h32, b2]⟩
      rw [lastB_app, b1]; simp [lastB, h32]
    · refine .inr ⟨P1, y, P2 ++ [x], by rw [e]; simp, y32, ?_, by simp [withL, h32, b2], by simp [withL, h32, b3], b4⟩
      rw [lastB_app, b1]; simp [lastB, h32]

theorem fold_doc (room : Int) (N : Nat) : ∀ (t P : List Pc) (L : List Ln) (n : Ln) (f : Nat), Fill room n P → n.to = endOf n.fr P → Ch N n.fr (P ++ t) → endOf n.fr (P ++ t) = N → (P ++ t).length ≤ f →
    (foldL room t L n).1.map pr ++ [pr (foldL room t L n).2] = L.map pr ++ docA room N f n.fr (P ++ t)
  | [], P, L, n, f, hF, hto, hC, hE, hf => by
    rw [List.append_nil] at hE hf ⊢
    have hne := hF.ne
    cases f with
    | zero => exact absurd (List.eq_nil_of_length_eq_zero (by omega)) hne
    | succ f =>
      have hl := lineA_pass room N [] P hne hF.fit
      rw [List.append_nil] at hl
      rw [docA, hl, lnA, if_pos rfl]
      simp [foldL, pr, hto, hE, hF.c]
  | x :: t, P, L, n, f, hF, hto, hC, hE, hf => by
    obtain ⟨hCx, _, _, hlt⟩ := Ch.app hC
    have hfr := hlt hF.ne
    rw [← hto] at hCx hfr
    obtain ⟨x1, x2, x3, hCt⟩ := hCx
    have hnt : ¬ n.fr = n.to := by omega
    have hlen : P.length + (t.length + 1) ≤ f := by simpa using hf
    have hPl : 0 < P.length := List.length_pos_iff.2 hF.ne
    have eE : endOf n.fr (P ++ x :: t) = endOf x.to t := by rw [endOf_app]; rfl
    rw [eE] at hE
    have one : Ch N x.fr ([x] ++ t) := ⟨rfl, by omega, x3, hCt⟩
    rw [foldL]
    by_cases hfit : n.c + width x.r ≤ room
    · have hs : squeeze 3 room x L n = (L, n) := by rw [squeeze, if_pos (by simp [fitB, hfit])]
      rw [hs]
      have e : P ++ x :: t = (P ++ [x]) ++ t := by simp
      rw [e]
      refine fold_doc room N t (P ++ [x]) L (withL n x) f (fill_with hF x (by omega) hfit) ?_ (by rw [← e]; exact hC) (by rw [← e]; show endOf n.fr _ = N; rw [eE]; exact hE) (by rw [← e]; exact hf)
      show x.to = endOf n.fr (P ++ [x])
      rw [endOf_app]; rfl
    · have hno : fitB n x room = false := by simp [fitB, hnt, hfit]
      obtain ⟨f', rfl⟩ : ∃ f', f = f' + 1 := ⟨f - 1, by omega⟩
      have hline := lineA_pass room N (x :: t) P hF.ne hF.fit
      rw [lnA, if_pos (by rw [← hF.c]; omega)] at hline
      have hxN : x.fr ≠ N := by omega
      have hdrop := drop_to hC
      rw [← hto, ← x1] at hdrop
      have htake := take_to hC
      rw [← hto, ← x1] at htake
      have ih1 := fun L' => fold_doc room N t [x] L' (withL (nil0 x.fr) x) f' (fill_one room x (by omega)) rfl one (by show endOf x.to t = N; exact hE) (by simp; omega)
      by_cases hc : x.r = 32 ∨ n.k = n.fr
      · have hl : lineA room N (P ++ x :: t) = x.fr := by
          rw [hline]
          by_cases h32 : x.r = 32
          · rw [if_pos h32]
          · rw [if_neg h32]
            rcases hF.blank with ⟨b1, _⟩ | ⟨_, y, _, _, _, _, b2, _, b4⟩
            · rw [b1]; rfl
            · exfalso
              rcases hc with h | h
              · exact h32 h
              · omega
        have hs : squeeze 3 room x L n = (L ++ [n], nil0 x.fr) := by
          rw [squeeze, hno, if_neg (by simp), squeeze]
          have e1 : stays n x = n := by unfold stays; rw [if_pos hc]
          have e2 : goes n x = nil0 x.fr := by unfold goes; rw [if_pos hc]; rfl
          rw [e1, e2, if_pos (by simp [fitB, nil0])]
        rw [hs, docA, hl, if_neg hxN, hdrop, htake, ← hF.c]
        have := ih1 (L ++ [n])
        rw [this]
        have e3 : (withL (nil0 x.fr) x).fr = x.fr := rfl
        rw [e3]
        simp [pr, x1]
      · rcases hF.blank with ⟨_, b2⟩ | ⟨P1, y, P2, e, y32, b1, b2, b3, b4⟩
        · exact absurd (.inr b2) hc
        · have h32 : ¬ x.r = 32 := fun h => hc (.inl h)
          have hlB : lastB P = some y.to := by
            rw [e, lastB_app]
            simp [lastB, b1, y32]
          have hl : lineA room N (P ++ x :: t) = y.to := by rw [hline, if_neg h32, hlB]; rfl
          have e1 : stays n x = ⟨n.fr, y.to, n.kc, 0, 0⟩ := by unfold stays; rw [if_neg hc, b2]
          have e2 : goes n x = ⟨y.to, n.to, n.c - n.kc, y.to, 0⟩ := by unfold goes; rw [if_neg hc, b2]
          have esp : P ++ x :: t = (P1 ++ [y]) ++ (P2 ++ x :: t) := by rw [e]; simp
          have hC2 := hC
          rw [esp] at hC2
          obtain ⟨hCr, _, _, _⟩ := Ch.app hC2
          have hdrop2 := drop_to hC2
          have ey : endOf n.fr (P1 ++ [y]) = y.to := by rw [endOf_app]; rfl
          have htake2 := take_to hC2
          rw [ey] at hCr hdrop2 htake2
          have hto2 : n.to = endOf y.to P2 := by
            rw [hto, e, endOf_app]; rfl
          obtain ⟨_, hle2, _, hlt2⟩ := Ch.app hCr
          have hyN : y.to ≠ N := by omega
          have hc2 : n.c - n.kc = wsum P2 := by
            rw [hF.c, b3, e, wsum_app, wsum_app]
            simp only [wsum]; omega
          have hs1 : squeeze 3 room x L n = squeeze 2 room x (L ++ [⟨n.fr, y.to, n.kc, 0, 0⟩]) ⟨y.to, n.to, n.c - n.kc, y.to, 0⟩ := by
            rw [squeeze, hno, if_neg (by simp), e1, e2]
          rw [docA, hl, if_neg hyN, show (P ++ x :: t).dropWhile (fun x => decide (x.fr < y.to)) = P2 ++ x :: t by rw [esp]; exact hdrop2, show (P ++ x :: t).takeWhile (fun x => decide (x.fr < y.to)) = P1 ++ [y] by rw [esp]; exact htake2, ← b3, hs1]
          by_cases hP2 : P2 = []
          · subst hP2
            have en : (⟨y.to, n.to, n.c - n.kc, y.to, 0⟩ : Ln) = nil0 x.fr := by
              have h1 : n.to = y.to := hto2
              rw [hc2, show wsum [] = 0 from rfl, h1, x1, h1]
              rfl
            rw [en, squeeze, if_pos (by simp [fitB, nil0])]
            have := ih1 (L ++ [⟨n.fr, y.to, n.kc, 0, 0⟩])
            rw [this]
            have e3 : (withL (nil0 x.fr) x).fr = x.fr := rfl
            have e4 : y.to = x.fr := by rw [x1]; exact hto2.symm
            rw [e3]
            simp [pr, e4]
          · have hPr : wsum P ≤ room := by
              rcases hF.fit with h | h
              · exfalso
                rw [e] at h
                have : 0 < P2.length := List.length_pos_iff.2 hP2
                simp at h
                omega
              · exact h
            have hP2r : wsum P2 ≤ room := by
              have h1 := wsum_nn (P1 ++ [y])
              have h2 : wsum P = wsum (P1 ++ [y]) + wsum P2 := by rw [e, wsum_app, wsum_app]; simp only [wsum]; omega
              omega
            have hlt3 := hlt2 hP2
            have hF2 : Fill room ⟨y.to, n.to, n.c - n.kc, y.to, 0⟩ P2 := ⟨hP2, hc2, .inr hP2r, .inl ⟨b1, rfl⟩⟩
            have hlen2 : P2.length + 2 ≤ P.length + 1 := by rw [e]; simp
            have hP2l : 0 < P2.length := List.length_pos_iff.2 hP2
            by_cases hfit2 : n.c - n.kc + width x.r ≤ room
            · rw [squeeze, if_pos (by simp [fitB, hfit2])]
              have e5 : P2 ++ x :: t = (P2 ++ [x]) ++ t := by simp
              rw [e5]
              have := fold_doc room N t (P2 ++ [x]) (L ++ [⟨n.fr, y.to, n.kc, 0, 0⟩]) (withL ⟨y.to, n.to, n.c - n.kc, y.to, 0⟩ x) f' (fill_with hF2 x (by show y.to < x.to; omega) hfit2) (by show x.to = endOf y.to (P2 ++ [x]); rw [endOf_app]; rfl) (by rw [← e5]; exact hCr) (by rw [← e5]; show endOf y.to _ = N; rw [endOf_app]; exact hE) (by rw [← e5]; simp; omega)
              rw [this]
              simp [pr, withL]
            · have hno2 : fitB ⟨y.to, n.to, n.c - n.kc, y.to, 0⟩ x room = false := by
                have : ¬ y.to = n.to := by omega
                simp [fitB, this, hfit2]
              have e6 : stays ⟨y.to, n.to, n.c - n.kc, y.to, 0⟩ x = ⟨y.to, n.to, n.c - n.kc, y.to, 0⟩ := by unfold stays; rw [if_pos (.inr rfl)]
              have e7 : goes ⟨y.to, n.to, n.c - n.kc, y.to, 0⟩ x = nil0 x.fr := by unfold goes; rw [if_pos (.inr rfl)]; rfl
              rw [squeeze, hno2, if_neg (by simp), e6, e7, squeeze, if_pos (by simp [fitB, nil0])]
              obtain ⟨f'', rfl⟩ : ∃ f'', f' = f'' + 1 := ⟨f' - 1, by omega⟩
              have hline2 := lineA_pass room N (x :: t) P2 hP2 (.inr hP2r)
              rw [lnA, if_pos (by rw [← hc2]; omega), if_neg h32, b1] at hline2
              have hline3 : lineA room N (P2 ++ x :: t) = x.fr := hline2
              have hdrop3 := drop_to hCr
              rw [← hto2, ← x1] at hdrop3
              have htake3 := take_to hCr
              rw [← hto2, ← x1] at htake3
              rw [docA, hline3, if_neg hxN, hdrop3, htake3, ← hc2]
              have := fold_doc room N t [x] (L ++ [⟨n.fr, y.to, n.kc, 0, 0⟩] ++ [⟨y.to, n.to, n.c - n.kc, y.to, 0⟩]) (withL (nil0 x.fr) x) f'' (fill_one room x (by omega)) rfl one (by show endOf x.to t = N; exact hE) (by simp; omega)
              rw [this]
              have e3 : (withL (nil0 x.fr) x).fr = x.fr := rfl
              rw [e3]
              simp [pr, x1]

theorem mov_ln (room : Int) (N p : Nat) (hp : p ≤ N) : ∀ (l : List Pc) (n : Int) (b : Nat), (∀ x ∈ l, 0 < x.to) → lnA room N (l.map (movP p)) n (if b = 0 then none else some (b + p)) = lnR room (N - p) l n b + p
  | [], n, b, _ => by rw [List.map_nil, lnA, lnR]; omega
  | x :: l, n, b, h => by
    have hx := h x (List.mem_cons_self ..)
    rw [List.map_cons, lnA, lnR]
    show (if room < n + width x.r then _ else _) = _
    by_cases c : room < n + width x.r
    · rw [if_pos c, if_pos c]
      show (if x.r = 32 then x.fr + p else _) = _
      by_cases h32 : x.r = 32
      · rw [if_pos h32, if_neg (by simp [h32])]
      · rw [if_neg h32]
        by_cases hb : b = 0
        · rw [if_pos hb, if_neg (by omega)]; rfl
        · rw [if_neg hb, if_pos ⟨h32, by omega⟩]; rfl
    · rw [if_neg c, if_neg c]
      show lnA room N (l.map (movP p)) (n + width x.r) (if x.r = 32 then some (x.to + p) else _) = _
      by_cases h32 : x.r = 32
      · rw [if_pos h32, if_pos h32, ← mov_ln room N p hp l _ x.to (fun y hy => h y (List.mem_cons_of_mem _ hy)), if_neg (by omega)]
      · rw [if_neg h32, if_neg h32, ← mov_ln room N p hp l _ b (fun y hy => h y (List.mem_cons_of_mem _ hy))]
theorem mov_line (room : Int) (N p : Nat) (hp : p ≤ N) (l : List Pc) (hl : ∀ x ∈ l, 0 < x.to) : lineA room N (l.map (movP p)) = lineR room (N - p) l + p := by
  cases l with
  | nil => rw [List.map_nil, lineA, lineR]; omega
  | cons x l =>
    have hx := hl x (List.mem_cons_self ..)
    rw [List.map_cons, lineA, lineR]
    show lnA room N (l.map (movP p)) (width x.r) (if x.r = 32 then some (x.to + p) else none) = _
    by_cases h32 : x.r = 32
    · rw [if_pos h32, if_pos h32, ← mov_ln room N p hp l _ x.to (fun y hy => hl y (List.mem_cons_of_mem _ hy)), if_neg (by omega)]
    · rw [if_neg h32, if_neg h32, ← mov_ln room N p hp l _ 0 (fun y hy => hl y (List.mem_cons_of_mem _ hy)), if_pos rfl]
theorem Ch.pos {N : Nat} : ∀ {a : Nat} {l : List Pc}, Ch N a l → ∀ x ∈ l, 0 < x.to
  | _, [], _, x, hx => by simp at hx
  | a, y :: l, h, x, hx => by
    rcases List.mem_cons.1 hx with rfl | hx
    · have := h.2.1; omega
    · exact h.2.2.2.pos x hx
theorem Ch.mov {N p : Nat} (hp : p ≤ N) : ∀ {a : Nat} {l : List Pc}, Ch (N - p) a l → Ch N (a + p) (l.map (movP p))
  | _, [], _ => trivial
  | a, x :: l, h => by
    obtain ⟨h1, h2, h3, h4⟩ := h
    exact ⟨by show x.fr + p = a + p; omega, by show a + p < x.to + p; omega, by show x.to + p ≤ N; omega, Ch.mov hp h4⟩
theorem last_end : ∀ (a : Nat) (l : List Pc), l ≠ [] → endOf a l = l.getLast?.elim 0 Pc.to
  | _, [], h => absurd rfl h
  | _, [x], _ => rfl
  | a, x :: y :: l, _ => by
    show endOf x.to (y :: l) = _
    rw [last_end x.to (y :: l) (by simp), List.getLast?_cons_cons]
/-- Where a line ends is the text's end or a piece's end. -/
theorem lnA_cut (room : Int) (N p : Nat) : ∀ (t P : List Pc) (n : Int) (b : Option Nat), P ≠ [] → (∀ c, b = some c → ∃ P1 P2, P = P1 ++ P2 ∧ P1 ≠ [] ∧ c = endOf p P1) → Ch N p (P ++ t) →
    lnA room N t n b = N ∨ ∃ pre rest, P ++ t = pre ++ rest ∧ pre ≠ [] ∧ lnA room N t n b = endOf p pre
  | [], P, n, b, _, _, _ => .inl rfl
  | x :: t, P, n, b, hP, hb, hC => by
    obtain ⟨hx, _⟩ := Ch.app hC
    rw [lnA]
    by_cases c : room < n + width x.r
    · rw [if_pos c]
      have e1 : x.fr = endOf p P := hx.1
      by_cases h32 : x.r = 32
      · rw [if_pos h32]; exact .inr ⟨P, x :: t, rfl, hP, e1⟩
      · rw [if_neg h32]
        cases b with
        | none => exact .inr ⟨P, x :: t, rfl, hP, e1⟩
        | some c =>
          obtain ⟨P1, P2, e, h1, h2⟩ := hb c rfl
          exact .inr ⟨P1, P2 ++ x :: t, by rw [e]; simp, h1, h2⟩
    · rw [if_neg c]
      have e : P ++ x :: t = (P ++ [x]) ++ t := by simp
      rw [e] at hC ⊢
      refine lnA_cut room N p t (P ++ [x]) _ _ (by simp) ?_ hC
      intro c hc
      by_cases h32 : x.r = 32
      · rw [if_pos h32] at hc
        injection hc with hc
        exact ⟨P ++ [x], [], by simp, by simp, by rw [endOf_app, ← hc]; rfl⟩
      · rw [if_neg h32] at hc
        obtain ⟨P1, P2, e, h1, h2⟩ := hb c hc
        exact ⟨P1, P2 ++ [x], by rw [e]; simp, h1, h2⟩
theorem lineA_cut (room : Int) (N p : Nat) (l : List Pc) (hC : Ch N p l) : lineA room N l = N ∨ ∃ pre rest, l = pre ++ rest ∧ pre ≠ [] ∧ lineA room N l = endOf p pre := by
  cases l with
  | nil => exact .inl rfl
  | cons x t =>
    rw [lineA]
    refine lnA_cut room N p t [x] _ _ (by simp) ?_ hC
    intro c hc
    by_cases h32 : x.r = 32
    · rw [if_pos h32] at hc
      injection hc with hc
      exact ⟨[x], [], rfl, by simp, by rw [← hc]; rfl⟩
    · rw [if_neg h32] at hc; cases hc

theorem T_ch (s : ByteArray) (p : Nat) (hp : p ≤ s.size) : Ch s.size p (T s p) := by
  rw [← pcs_tail s p hp]
  have h := pcs_ch (s.extract p s.size)
  rw [tail_size] at h
  have := Ch.mov hp h
  rwa [Nat.zero_add] at this
theorem T_split (s : ByteArray) (p : Nat) (hp : p ≤ s.size) (pre rest : List Pc) (h : T s p = pre ++ rest) (hne : pre ≠ []) : rest = T s (endOf p pre) ∧ endOf p pre ≤ s.size := by
  have ht := pcs_tail s p hp
  rw [h] at ht
  obtain ⟨a, b, e1, e2, e3⟩ := List.map_eq_append_iff.1 ht
  have ha : a ≠ [] := by rintro rfl; simp at e2; exact hne e2
  obtain ⟨h1, h2⟩ := pcs_split (s.extract p s.size) a b e1 ha
  rw [tail_size] at h2
  have hl : endOf p pre = a.getLast?.elim 0 Pc.to + p := by
    rw [last_end p pre hne, ← e2, List.getLast?_map]
    cases hg : a.getLast? with
    | none => exact absurd (List.getLast?_eq_none_iff.1 hg) ha
    | some x => rfl
  refine ⟨?_, by omega⟩
  rw [hl]
  generalize a.getLast?.elim 0 Pc.to = q at *
  rw [← e3, h1]
  have hq : q ≤ (s.extract p s.size).size := by rw [tail_size]; omega
  rw [← pcs_tail (s.extract p s.size) q hq, ← pcs_tail s (q + p) (by omega), List.map_map, tail_size]
  have ee : (s.extract p s.size).extract q (s.size - p) = s.extract (q + p) s.size := by
    apply ByteArray.ext
    rw [ByteArray.data_extract, ByteArray.data_extract, ByteArray.data_extract, Array.extract_extract]
    congr 1
    · omega
    · omega
  rw [ee]
  congr 1
  funext x
  simp [movP, Nat.add_assoc]
theorem T_nil {s : ByteArray} {p : Nat} (hp : p < s.size) : T s p ≠ [] := by
  intro h
  have ht := pcs_tail s p (by omega)
  rw [h] at ht
  have := pcs_some (s.extract p s.size) (by rw [tail_size]; omega)
  have h2 : pcs (s.extract p s.size) = [] := List.map_eq_nil_iff.1 ht
  rw [h2] at this
  simp at this
theorem T_end (s : ByteArray) (p : Nat) (hp : p < s.size) : endOf p (T s p) = s.size := by
  have hne := T_nil hp
  obtain ⟨h1, h2⟩ := T_split s p (by omega) (T s p) [] (by simp) hne
  rcases Nat.lt_or_ge (endOf p (T s p)) s.size with h | h
  · exact absurd h1.symm (T_nil h)
  · omega
theorem T_len (s : ByteArray) (p : Nat) (hp : p ≤ s.size) : (T s p).length ≤ s.size - p := by
  have key : ∀ (l : List Pc) (a : Nat), Ch s.size a l → a ≤ s.size → l.length ≤ s.size - a := by
    intro l
    induction l with
    | nil => intro a _ _; simp
    | cons x l ih =>
      intro a h _
      obtain ⟨h1, h2, h3, h4⟩ := h
      have := ih x.to h4 h3
      simp; omega
  exact key _ _ (T_ch s p hp) hp

theorem par_doc (s : ByteArray) (cells : Int) (hc : 1 ≤ cells) : ∀ (f p g : Nat), p < s.size → (T s p).length ≤ f → s.size - p < g → parR cells g (s.extract p s.size) false = (docA cells s.size f p (T s p)).map fun q => s.extract q.1 q.2.1
  | 0, p, g, hp, hf, hg => absurd (List.eq_nil_of_length_eq_zero (by omega)) (T_nil hp)
  | f + 1, p, 0, hp, hf, hg => by omega
  | f + 1, p, g + 1, hp, hf, hg => by
    have hm := mov_line cells s.size p (by omega) (pcs (s.extract p s.size)) (pcs_ch _).pos
    rw [pcs_tail s p (by omega)] at hm
    have hus := tail_size s p
    rw [parR, docA, hm, hus]
    have hbd := lineR_bd cells (s.extract p s.size) (by rw [hus]; omega)
    rw [hus] at hbd
    generalize hq : lineR cells (s.size - p) (pcs (s.extract p s.size)) = q at *
    by_cases he : q = s.size - p
    · rw [if_neg (by omega), if_pos (.inl (by omega)), if_pos (by omega)]
      rfl
    · rw [if_pos ⟨hc, by omega, he⟩, if_neg (by omega)]
      rcases lineA_cut cells s.size p (T s p) (T_ch s p (by omega)) with h | ⟨pre, rest, e, hne, h⟩
      · rw [hm] at h; omega
      · rw [hm] at h
        obtain ⟨h1, h2⟩ := T_split s p (by omega) pre rest e hne
        have hd : (T s p).dropWhile (fun x => decide (x.fr < q + p)) = T s (q + p) := by
          have hch := T_ch s p (by omega)
          rw [e] at hch ⊢
          rw [h, drop_to hch, h1]
        have hlen : (T s (q + p)).length ≤ f := by
          have : (T s p).length = pre.length + (T s (q + p)).length := by rw [e, List.length_append, h1, h]
          have : 0 < pre.length := List.length_pos_iff.2 hne
          omega
        have ee : ∀ a b, a ≤ b → b ≤ s.size - p → (s.extract p s.size).extract a b = s.extract (p + a) (p + b) := by
          intro a b _ hb
          apply ByteArray.ext
          rw [ByteArray.data_extract, ByteArray.data_extract, ByteArray.data_extract, Array.extract_extract]
          congr 1
          omega
        rw [hd, List.map_cons, ee 0 q (by omega) (by omega), ee q (s.size - p) (by omega) (by omega), Nat.add_zero, Nat.add_comm p q, show p + (s.size - p) = s.size by omega]
        rw [par_doc s cells hc f (q + p) g (by omega) hlen (by omega)]

theorem lines_doc (s : ByteArray) (room : Int) (f : Nat) (h0 : 0 < s.size) (hf : (pcs s).length ≤ f) : (linesOf s room).map pr = docA room s.size f 0 (pcs s) := by
  have hch := pcs_ch s
  have hE : endOf 0 (pcs s) = s.size := by rw [pcs_T]; exact T_end s 0 h0
  have hp := pcs_some s h0
  unfold linesOf
  rw [List.map_append, List.map_cons, List.map_nil]
  cases hl : pcs s with
  | nil => rw [hl] at hp; simp at hp
  | cons x t =>
    rw [hl] at hch hE hf
    obtain ⟨h1, h2, h3, h4⟩ := id hch
    have hs : squeeze 3 room x [] zeroL = ([], nil0 x.fr) := by
      rw [squeeze, if_pos (by simp [fitB, zeroL]), h1]; rfl
    rw [foldL, hs]
    have := fold_doc room s.size t [x] [] (withL (nil0 x.fr) x) f (fill_one room x (by omega)) rfl (by rw [← h1] at hch; exact hch) (by show endOf x.to t = s.size; exact hE) hf
    rw [this]
    have e3 : (withL (nil0 x.fr) x).fr = 0 := h1
    rw [e3]
    rfl

theorem wsum_le (l : List Pc) : wsum l ≤ 2 * l.length := by
  induction l with
  | nil => simp [wsum]
  | cons a t ih => have := (width_range a.r).2; simp only [wsum, List.length_cons]; omega

/-- The document's lines of a paragraph are package runes'. -/
theorem par_out (s : ByteArray) (cells : Int) (hs : s.size ≤ 1048576) : parR cells (s.size + 1) s true = outP s (roomOf cells) := by
  by_cases h0 : 0 < s.size
  · have hl := T_len s 0 (by omega)
    rw [← pcs_T] at hl
    have hout : outP s (roomOf cells) = (docA (roomOf cells) s.size (pcs s).length 0 (pcs s)).map fun q => s.extract q.1 q.2.1 := by
      rw [← lines_doc s (roomOf cells) _ h0 (Nat.le_refl _), List.map_map]
      rfl
    rw [hout]
    by_cases hc : 1 ≤ cells
    · have hr : roomOf cells = cells := by unfold roomOf; rw [if_neg (by omega)]
      have h1 := par_doc s cells hc (pcs s).length 0 (s.size + 1) h0 (by rw [← pcs_T]; exact Nat.le_refl _) (by omega)
      rw [← pcs_T] at h1
      rw [hr, ← h1]
      have es : s.extract 0 s.size = s := ByteArray.ext (by rw [ByteArray.data_extract]; exact Array.extract_size)
      rw [es, parR, parR]
      by_cases c : 1 ≤ cells ∧ 0 < s.size ∧ lineR cells s.size (pcs s) ≠ s.size
      · rw [if_pos c, if_pos c]
      · rw [if_neg c, if_neg c, if_pos (.inl h0), if_pos (.inl h0)]
    · have hr : roomOf cells = 9223372036854775807 := by unfold roomOf; rw [if_pos (by omega)]
      have hline : lineA (roomOf cells) s.size (pcs s) = s.size := by
        have hne : pcs s ≠ [] := by intro h; have := pcs_some s h0; rw [h] at this; simp at this
        have hw := wsum_le (pcs s)
        have := lineA_pass (roomOf cells) s.size [] (pcs s) hne (.inr (by rw [hr]; omega))
        rwa [List.append_nil, lnA] at this
      obtain ⟨n, hn⟩ : ∃ n, (pcs s).length = n + 1 := ⟨(pcs s).length - 1, by have := pcs_some s h0; omega⟩
      rw [hn, docA, hline, if_pos rfl, parR, if_neg (by omega), if_pos (.inl h0)]
      simp only [List.map_cons, List.map_nil]
      rw [show s.extract 0 s.size = s from ByteArray.ext (by rw [ByteArray.data_extract]; exact Array.extract_size)]
  · have e0 : s.size = 0 := by omega
    have es : s.extract 0 0 = s := by
      have h : s.extract 0 s.size = s := ByteArray.ext (by rw [ByteArray.data_extract]; exact Array.extract_size)
      rwa [e0] at h
    have hp : pcs s = [] := by
      have := T_len s 0 (by omega)
      rw [← pcs_T] at this
      exact List.eq_nil_of_length_eq_zero (by omega)
    rw [parR, if_neg (by omega), if_pos (.inr rfl)]
    unfold outP linesOf
    rw [hp]
    show [s] = [s.extract 0 0]
    rw [es]

/-- Decoding, by four bytes and whether they are there. -/
def dec4 (b0 b1 b2 b3 : Nat) (t1 t2 t3 : Bool) : Nat × Nat :=
  if b0 < 0x80 then (b0, 1)
  else if b0 / 32 == 6 && (t1 && b1 / 64 == 2) then
    if (b0 % 32) * 64 + b1 % 64 ≥ 0x80 then ((b0 % 32) * 64 + b1 % 64, 2) else (Utf8.runeError, 1)
  else if b0 / 16 == 14 && (t1 && b1 / 64 == 2) && (t2 && b2 / 64 == 2) then
    if ((b0 % 16) * 4096 + (b1 % 64) * 64 + b2 % 64) ≥ 0x800 && Utf8.valid (((b0 % 16) * 4096 + (b1 % 64) * 64 + b2 % 64 : Nat) : Int) then ((b0 % 16) * 4096 + (b1 % 64) * 64 + b2 % 64, 3) else (Utf8.runeError, 1)
  else if b0 / 8 == 30 && (t1 && b1 / 64 == 2) && (t2 && b2 / 64 == 2) && (t3 && b3 / 64 == 2) then
    if ((b0 % 8) * 262144 + (b1 % 64) * 4096 + (b2 % 64) * 64 + b3 % 64) ≥ 0x10000 && Utf8.valid (((b0 % 8) * 262144 + (b1 % 64) * 4096 + (b2 % 64) * 64 + b3 % 64 : Nat) : Int) then ((b0 % 8) * 262144 + (b1 % 64) * 4096 + (b2 % 64) * 64 + b3 % 64, 4) else (Utf8.runeError, 1)
  else (Utf8.runeError, 1)
theorem decode_dec4 (s : ByteArray) (i : Nat) : Utf8.decode s i = dec4 (s.get! i).toNat (s.get! (i + 1)).toNat (s.get! (i + 2)).toNat (s.get! (i + 3)).toNat (decide (i + 1 < s.size)) (decide (i + 2 < s.size)) (decide (i + 3 < s.size)) := rfl
theorem two_no {u1 u2 p q : Bool} (h : ¬ (u1 = true ∧ u2 = true)) : ((u1 && p) && (u2 && q)) = false := by
  cases u1 <;> cases u2 <;> simp_all
theorem three_no {u1 u2 u3 p q r : Bool} (h : ¬ (u1 = true ∧ u2 = true ∧ u3 = true)) : (((u1 && p) && (u2 && q)) && (u3 && r)) = false := by
  cases u1 <;> cases u2 <;> cases u3 <;> simp_all
set_option maxHeartbeats 1000000 in
theorem dec4_less (b0 b1 b2 b3 c1 c2 c3 : Nat) (t1 t2 t3 u1 u2 u3 : Bool) (h1 : u1 = true → t1 = true ∧ c1 = b1) (h2 : u2 = true → t2 = true ∧ c2 = b2) (h3 : u3 = true → t3 = true ∧ c3 = b3)
    (z1 : 2 ≤ (dec4 b0 b1 b2 b3 t1 t2 t3).2 → u1 = true) (z2 : 3 ≤ (dec4 b0 b1 b2 b3 t1 t2 t3).2 → u2 = true) (z3 : 4 ≤ (dec4 b0 b1 b2 b3 t1 t2 t3).2 → u3 = true) : dec4 b0 c1 c2 c3 u1 u2 u3 = dec4 b0 b1 b2 b3 t1 t2 t3 := by
  unfold dec4 at *
  by_cases a : b0 < 128
  · simp [a]
  simp only [if_neg a] at *
  by_cases k2 : b0 / 32 = 6
  · have k3 : ¬ b0 / 16 = 14 := by omega
    have k4 : ¬ b0 / 8 = 30 := by omega
    simp only [k2, k3, k4, beq_self_eq_true, Bool.true_and, Bool.false_and, beq_eq_false_iff_ne.2 k3, beq_eq_false_iff_ne.2 k4, Bool.false_eq_true, if_false] at *
    cases u1
    · cases t1
      · simp
      · simp only [Bool.true_and, Bool.false_and, Bool.false_eq_true, if_false] at *
        by_cases e : b1 / 64 = 2
        · simp only [e, beq_self_eq_true, if_true] at *
          by_cases f : (b0 % 32) * 64 + b1 % 64 ≥ 128
          · simp [f] at z1
          · simp [f]
        · simp [e]
    · obtain ⟨rfl, rfl⟩ := h1 rfl
      rfl
  · simp only [beq_eq_false_iff_ne.2 k2, Bool.false_and, Bool.false_eq_true, if_false] at *
    by_cases k3 : b0 / 16 = 14
    · have k4 : ¬ b0 / 8 = 30 := by omega
      simp only [k3, beq_self_eq_true, Bool.true_and, beq_eq_false_iff_ne.2 k4, Bool.false_and, Bool.false_eq_true, if_false] at *
      by_cases hu : u1 = true ∧ u2 = true
      · obtain ⟨rfl, rfl⟩ := hu
        obtain ⟨rfl, rfl⟩ := h1 rfl
        obtain ⟨rfl, rfl⟩ := h2 rfl
        rfl
      · have hL : ((u1 && c1 / 64 == 2) && (u2 && c2 / 64 == 2)) = false := two_no hu
        rw [hL]
        simp only [Bool.false_eq_true, if_false]
        by_cases hR : ((t1 && b1 / 64 == 2) && (t2 && b2 / 64 == 2)) = true
        · rw [if_pos hR] at z1 z2 ⊢
          by_cases f : (decide ((b0 % 16) * 4096 + (b1 % 64) * 64 + b2 % 64 ≥ 2048) && Utf8.valid (((b0 % 16) * 4096 + (b1 % 64) * 64 + b2 % 64 : Nat) : Int)) = true
          · rw [if_pos f] at z1 z2
            exact absurd ⟨z1 (show 2 ≤ 3 by decide), z2 (show 3 ≤ 3 by decide)⟩ hu
          · rw [if_neg f]
        · rw [if_neg hR]
    · simp only [beq_eq_false_iff_ne.2 k3, Bool.false_and, Bool.false_eq_true, if_false] at *
      by_cases k4 : b0 / 8 = 30
      · simp only [k4, beq_self_eq_true, Bool.true_and] at *
        by_cases hu : u1 = true ∧ u2 = true ∧ u3 = true
        · obtain ⟨rfl, rfl, rfl⟩ := hu
          obtain ⟨rfl, rfl⟩ := h1 rfl
          obtain ⟨rfl, rfl⟩ := h2 rfl
          obtain ⟨rfl, rfl⟩ := h3 rfl
          rfl
        · have hL : (((u1 && c1 / 64 == 2) && (u2 && c2 / 64 == 2)) && (u3 && c3 / 64 == 2)) = false := three_no hu
          rw [hL]
          simp only [Bool.false_eq_true, if_false]
          by_cases hR : (((t1 && b1 / 64 == 2) && (t2 && b2 / 64 == 2)) && (t3 && b3 / 64 == 2)) = true
          · rw [if_pos hR] at z1 z2 z3 ⊢
            by_cases f : (decide ((b0 % 8) * 262144 + (b1 % 64) * 4096 + (b2 % 64) * 64 + b3 % 64 ≥ 65536) && Utf8.valid (((b0 % 8) * 262144 + (b1 % 64) * 4096 + (b2 % 64) * 64 + b3 % 64 : Nat) : Int)) = true
            · rw [if_pos f] at z1 z2 z3
              exact absurd ⟨z1 (show 2 ≤ 4 by decide), z2 (show 3 ≤ 4 by decide), z3 (show 4 ≤ 4 by decide)⟩ hu
            · rw [if_neg f]
          · rw [if_neg hR]
      · simp [k4]
theorem head_get (s : ByteArray) {q j : Nat} (hq : q ≤ s.size) (hj : j < q) : (s.extract 0 q).get! j = s.get! j := by
  show (s.extract 0 q).data[j]! = s.data[j]!
  have e : s.data.size = s.size := rfl
  rw [ByteArray.data_extract, getElem!_pos _ _ (by rw [Array.size_extract]; omega), getElem!_pos _ _ (by omega), Array.getElem_extract]
  simp
/-- Of a text that is cut, what is decoded ahead of the cut. -/
theorem head_decode (s : ByteArray) {q i : Nat} (hq : q ≤ s.size) (hi : i < q) (hz : i + (Utf8.decode s i).2 ≤ q) : Utf8.decode (s.extract 0 q) i = Utf8.decode s i := by
  have hs : (s.extract 0 q).size = q := by rw [ByteArray.size_extract]; omega
  rw [decode_dec4] at hz
  rw [decode_dec4 (s.extract 0 q), decode_dec4 s, hs, head_get s hq hi]
  refine dec4_less _ _ _ _ _ _ _ _ _ _ _ _ _ ?_ ?_ ?_ ?_ ?_ ?_
  · intro h; have h' := of_decide_eq_true h; exact ⟨decide_eq_true (by omega), by rw [head_get s hq h']⟩
  · intro h; have h' := of_decide_eq_true h; exact ⟨decide_eq_true (by omega), by rw [head_get s hq h']⟩
  · intro h; have h' := of_decide_eq_true h; exact ⟨decide_eq_true (by omega), by rw [head_get s hq h']⟩
  · intro h; exact decide_eq_true (by omega)
  · intro h; exact decide_eq_true (by omega)
  · intro h; exact decide_eq_true (by omega)

theorem grow_ge (s : ByteArray) : ∀ (F a r p : Nat), p ≤ s.size → ∀ x ∈ grow s F a r p, p ≤ x.to
  | 0, _, _, _, _, x, hx => by simp [grow] at hx
  | F + 1, a, r, p, hp, x, hx => by
    rw [grow] at hx
    by_cases h : p < s.size
    · have hz := sz_pos s p
      have hl := sz_le s p h
      rw [if_pos h] at hx
      by_cases hm : (mrk (rn s p) && !ctl r) = true
      · rw [if_pos hm] at hx
        have := grow_ge s F a r (p + sz s p) hl x hx
        omega
      · rw [if_neg hm] at hx
        rcases List.mem_cons.1 hx with rfl | hx
        · exact Nat.le_refl _
        · have := grow_ge s F p (rn s p) (p + sz s p) hl x hx
          omega
    · rw [if_neg h] at hx
      rw [List.mem_singleton] at hx
      subst hx
      exact hp
theorem endOf_mem : ∀ (a : Nat) (l : List Pc), l ≠ [] → ∃ x ∈ l, endOf a l = x.to
  | _, [], h => absurd rfl h
  | _, [x], _ => ⟨x, List.mem_singleton.2 rfl, rfl⟩
  | a, x :: y :: l, _ => by
    obtain ⟨z, hz, e⟩ := endOf_mem x.to (y :: l) (by simp)
    exact ⟨z, List.mem_cons_of_mem _ hz, e⟩
theorem endOf_any (a b : Nat) {l : List Pc} (h : l ≠ []) : endOf a l = endOf b l := by
  cases l with
  | nil => exact absurd rfl h
  | cons x l => rfl
theorem grow_head (s : ByteArray) (q : Nat) (hq : q ≤ s.size) : ∀ (n p a r : Nat), s.size - p ≤ n → p ≤ s.size → ∀ (pre rest : List Pc), pre ≠ [] → grow s (s.size + 1) a r p = pre ++ rest → endOf 0 pre = q → grow (s.extract 0 q) (q + 1) a r p = pre
  | n, p, a, r, hn, hp, pre, rest, hne, he, hend => by
    have hus : (s.extract 0 q).size = q := by rw [ByteArray.size_extract]; omega
    have hge : p ≤ q := by
      obtain ⟨x, hx, e⟩ := endOf_mem 0 pre hne
      have := grow_ge s _ a r p hp x (by rw [he]; exact List.mem_append_left _ hx)
      omega
    have stop : p = q → grow (s.extract 0 q) (q + 1) a r p = [⟨a, p, r⟩] := by
      rintro rfl
      have h := T_stop (s.extract 0 p) a r p (.inr hus.symm)
      rw [hus] at h
      rw [h, T, hus, if_neg (by omega)]
    by_cases hb : p < s.size
    · have hz := sz_pos s p
      have hl := sz_le s p hb
      obtain ⟨n', rfl⟩ : ∃ n', n = n' + 1 := ⟨n - 1, by omega⟩
      cases hm : (mrk (rn s p) && !ctl r)
      · rw [T_stop s a r p (.inl ⟨hb, hm⟩)] at he
        cases pre with
        | nil => exact absurd rfl hne
        | cons x t =>
          rw [List.cons_append] at he
          injection he with e1 e2
          cases t with
          | nil =>
            subst e1
            exact stop hend
          | cons y t =>
            rw [T, if_pos hb] at e2
            have hend2 : endOf 0 (y :: t) = q := hend
            have hpq : p + sz s p ≤ q := by
              obtain ⟨z, hz', e⟩ := endOf_mem 0 (y :: t) (by simp)
              have := grow_ge s _ p (rn s p) (p + sz s p) hl z (by rw [e2]; exact List.mem_append_left _ hz')
              omega
            have hd := head_decode s hq (show p < q by omega) hpq
            have ih := grow_head s q hq n' (p + sz s p) p (rn s p) (by omega) hl (y :: t) rest (by simp) e2 hend2
            have h := T_stop (s.extract 0 q) a r p (.inl ⟨by omega, by unfold rn; rw [hd]; exact hm⟩)
            rw [hus] at h
            rw [h, T, hus, if_pos (by omega)]
            have h1 : rn (s.extract 0 q) p = rn s p := by unfold rn; rw [hd]
            have h2 : sz (s.extract 0 q) p = sz s p := by unfold sz; rw [hd]
            rw [h1, h2, ih, ← e1]
      · rw [T_go s a r p hb hm] at he
        have hpq : p + sz s p ≤ q := by
          obtain ⟨z, hz', e⟩ := endOf_mem 0 pre hne
          have := grow_ge s _ a r (p + sz s p) hl z (by rw [he]; exact List.mem_append_left _ hz')
          omega
        have hd := head_decode s hq (show p < q by omega) hpq
        have h := T_go (s.extract 0 q) a r p (by omega) (by unfold rn; rw [hd]; exact hm)
        rw [hus] at h
        have h2 : sz (s.extract 0 q) p = sz s p := by unfold sz; rw [hd]
        rw [h, h2]
        exact grow_head s q hq n' (p + sz s p) a r (by omega) hl pre rest hne he hend
    · obtain rfl : p = s.size := by omega
      have hqs : s.size = q := by omega
      rw [T_stop s a r s.size (.inr rfl), T, if_neg (by omega)] at he
      cases pre with
      | nil => exact absurd rfl hne
      | cons x t =>
        rw [List.cons_append] at he
        injection he with e1 e2
        obtain ⟨rfl, rfl⟩ := List.append_eq_nil_iff.1 e2.symm
        subst e1
        exact stop hqs
/-- Cut behind a piece, a text's beginning has the first of its pieces. -/
theorem pcs_head (s : ByteArray) (pre rest : List Pc) (h : pcs s = pre ++ rest) (hne : pre ≠ []) (hq : endOf 0 pre ≤ s.size) : pcs (s.extract 0 (endOf 0 pre)) = pre := by
  have hus : (s.extract 0 (endOf 0 pre)).size = endOf 0 pre := by rw [ByteArray.size_extract]; omega
  rw [pcs_T, T] at h
  by_cases h0 : 0 < s.size
  · rw [if_pos h0] at h
    have hz := sz_pos s 0
    have hl := sz_le s 0 h0
    have hge : 0 + sz s 0 ≤ endOf 0 pre := by
      obtain ⟨x, hx, e⟩ := endOf_mem 0 pre hne
      have := grow_ge s _ 0 (rn s 0) (0 + sz s 0) hl x (by rw [h]; exact List.mem_append_left _ hx)
      omega
    have hd := head_decode s hq (show 0 < endOf 0 pre by omega) hge
    have := grow_head s (endOf 0 pre) hq s.size (0 + sz s 0) 0 (rn s 0) (by omega) hl pre rest hne h rfl
    rw [pcs_T, T, hus, if_pos (by omega)]
    have h1 : rn (s.extract 0 (endOf 0 pre)) 0 = rn s 0 := by unfold rn; rw [hd]
    have h2 : sz (s.extract 0 (endOf 0 pre)) 0 = sz s 0 := by unfold sz; rw [hd]
    rw [h1, h2, this]
  · rw [if_neg h0] at h
    exact absurd (List.append_eq_nil_iff.1 h.symm).1 hne

theorem sum_wsum (l : List Pc) : sumC l = wsum l := by
  unfold sumC
  induction l with
  | nil => rfl
  | cons x t ih => simp only [List.map_cons, List.foldr_cons, wsum, ih]
theorem wsum_mov (p : Nat) (l : List Pc) : wsum (l.map (movP p)) = wsum l := by
  induction l with
  | nil => rfl
  | cons x t ih => simp only [List.map_cons, wsum, ih, movP]
theorem endOf_mov (p : Nat) : ∀ (a : Nat) (l : List Pc), endOf (a + p) (l.map (movP p)) = endOf a l + p
  | _, [] => rfl
  | _, x :: l => endOf_mov p x.to l
/-- The cells of a line's text are those that were counted. -/
theorem doc_width (s : ByteArray) (room : Int) : ∀ (f p : Nat), p < s.size → (T s p).length ≤ f → ∀ q ∈ docA room s.size f p (T s p), q.2.2 = sumC (pcs (s.extract q.1 q.2.1))
  | 0, p, hp, hf, _, _ => absurd (List.eq_nil_of_length_eq_zero (by omega)) (T_nil hp)
  | f + 1, p, hp, hf, q, hq => by
    have hch := T_ch s p (by omega)
    rw [docA] at hq
    by_cases hN : lineA room s.size (T s p) = s.size
    · rw [if_pos hN, List.mem_singleton] at hq
      subst hq
      show wsum (T s p) = sumC (pcs (s.extract p s.size))
      rw [← pcs_tail s p (by omega), wsum_mov, sum_wsum]
    · rw [if_neg hN] at hq
      rcases lineA_cut room s.size p (T s p) hch with h | ⟨pre, rest, e, hne, h⟩
      · exact absurd h hN
      · obtain ⟨h1, h2⟩ := T_split s p (by omega) pre rest e hne
        have hch' := hch
        rw [e] at hch'
        have htake : (T s p).takeWhile (fun x => decide (x.fr < lineA room s.size (T s p))) = pre := by
          rw [h, e]; exact take_to hch'
        have hdrop : (T s p).dropWhile (fun x => decide (x.fr < lineA room s.size (T s p))) = T s (lineA room s.size (T s p)) := by
          rw [h, ← h1, e]; exact drop_to hch'
        obtain ⟨_, hle, _, hlt⟩ := Ch.app hch'
        rw [htake, hdrop] at hq
        generalize lineA room s.size (T s p) = cut at *
        subst h
        rcases List.mem_cons.1 hq with rfl | hq
        · show wsum pre = sumC (pcs (s.extract p (endOf p pre)))
          have ht := pcs_tail s p (by omega)
          rw [e] at ht
          obtain ⟨a, b, e1, e2, e3⟩ := List.map_eq_append_iff.1 ht
          have ha : a ≠ [] := by rintro rfl; simp at e2; exact hne e2
          have hend : endOf p pre = endOf 0 a + p := by
            rw [← e2]
            have := endOf_mov p 0 a
            rwa [Nat.zero_add] at this
          have hph := pcs_head (s.extract p s.size) a b e1 ha (by rw [tail_size]; omega)
          have ee : (s.extract p s.size).extract 0 (endOf 0 a) = s.extract p (endOf p pre) := by
            apply ByteArray.ext
            rw [ByteArray.data_extract, ByteArray.data_extract, ByteArray.data_extract, Array.extract_extract]
            congr 1
            omega
          rw [ee] at hph
          rw [hph, sum_wsum, ← e2, wsum_mov]
        · have hlen : (T s (endOf p pre)).length ≤ f := by
            have e4 : (T s p).length = pre.length + (T s (endOf p pre)).length := by rw [e, List.length_append, h1]
            have : 0 < pre.length := List.length_pos_iff.2 hne
            omega
          exact doc_width s room f (endOf p pre) (by omega) hlen q hq
/-- Each line that package runes finds has the cells of its text. -/
theorem lines_width (s : ByteArray) (room : Int) : (linesOf s room).map (fun l => l.c) = (outP s room).map fun x => sumC (pcs x) := by
  by_cases h0 : 0 < s.size
  · have h := lines_doc s room (pcs s).length h0 (Nat.le_refl _)
    have hw := doc_width s room (pcs s).length 0 h0 (by rw [← pcs_T]; exact Nat.le_refl _)
    rw [← pcs_T, ← h] at hw
    unfold outP
    rw [List.map_map]
    refine List.map_congr_left fun l hl => ?_
    exact hw (pr l) (List.mem_map.2 ⟨l, hl, rfl⟩)
  · have e0 : s.size = 0 := by omega
    have hp : pcs s = [] := by
      have := T_len s 0 (by omega)
      rw [← pcs_T] at this
      exact List.eq_nil_of_length_eq_zero (by omega)
    have es : s.extract 0 0 = s := by
      have h : s.extract 0 s.size = s := ByteArray.ext (by rw [ByteArray.data_extract]; exact Array.extract_size)
      rwa [e0] at h
    unfold outP linesOf
    rw [hp]
    show [(0 : Int)] = [sumC (pcs (s.extract 0 0))]
    rw [es, hp]
    rfl

end Go.Proofs.YtlooemhaoikidaaDoor
