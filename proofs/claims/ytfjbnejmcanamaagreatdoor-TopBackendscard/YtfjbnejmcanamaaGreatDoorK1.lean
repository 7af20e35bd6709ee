/-
  Texts of this claim, one behind the other: what each is about stands ahead of it.
-/
import Derived.Test.YtfjbnejmcanamaaGreatDoorK0
import Derived.Test.YtfjbnejmcanamaaGreatDoorRows
import Derived.WalkKit
import Derived.WalkSpells
import Derived.WalkLawsBesides
import Derived.Deep.AppendLies
import Derived.BigQuiet
import Derived.Deep.QuietTactic
/-
  Drawing lists in plain words: strokes that may be, clips, where strokes show, what nobody sees, lists cut to a region.
-/
namespace Go.Proofs.YtfjbnejmcanamaaGreatDoor

/-- A stroke. -/
structure St where
  k : Int
  r : Rc
  c : Co
  b : Co
  t : ByteArray
  n : Int

def zEm (r : Rc) : Bool := emptyB r.x r.y r.w r.h
def zMe (a b : Rc) : Rc := meetR a.x a.y a.w a.h b.x b.y b.w b.h
def zHa (r : Rc) (px py : Int) : Bool := hasB r.x r.y r.w r.h px py
def zIn (a b : Rc) : Bool := inB a.x a.y a.w a.h b.x b.y b.w b.h
def zOv (a b : Rc) : Bool := overB a.x a.y a.w a.h b.x b.y b.w b.h
def zMa (r : Rc) : Bool := mayB r.x r.y r.w r.h
def zZr (r : Rc) : Bool := eqB r 0 0 0 0
def coE (c : Co) : Bool := (c.r == 0) && ((c.g == 0) && ((c.b == 0) && (c.a == 0)))

/-- What is wrong with a stroke. -/
def wroK (s : St) : Bool := (decide (s.k < 1) || decide (5 < s.k)) || ((decide (s.n < 0) || decide (1048576 < s.n)) || decide (65536 < s.t.size))
def wroF (s : St) : Bool := (!(s.k == 3) && (!(s.t.size == 0) || !coE s.b)) || (((s.k == 4 || s.k == 5) && !coE s.c) || (s.k == 5 && !zZr s.r))
def oneE (s : St) : Int := if (wroK s || wroF s) = true then 2 else if zMa s.r = true then 0 else 5
theorem oneE_cases (s : St) : oneE s = 0 ∨ oneE s = 2 ∨ oneE s = 5 := by
  unfold oneE
  split
  · exact .inr (.inl rfl)
  · split
    · exact .inl rfl
    · exact .inr (.inr rfl)
theorem oneE_zero {s : St} (h : oneE s = 0) : zMa s.r = true ∧ (s.k = 1 ∨ s.k = 2 ∨ s.k = 3 ∨ s.k = 4 ∨ s.k = 5) ∧ wroF s = false := by
  unfold oneE at h
  split at h
  · cases h
  · next h1 =>
    split at h
    · next h2 =>
      refine ⟨h2, ?_, ?_⟩
      · have h3 : wroK s = false := by
          cases e : wroK s
          · rfl
          · rw [e] at h1; simp at h1
        unfold wroK at h3
        simp at h3
        omega
      · cases e : wroF s
        · rfl
        · rw [e] at h1; simp at h1
    · cases h

/-- How many clips are open. -/
def opn (n : Nat) (s : St) : Nat := if s.k = 4 then n + 1 else if s.k = 5 then n - 1 else n
def clpE : Nat → List St → Int
  | n, [] => if 0 < n then 130 else 0
  | n, s :: l => if oneE s ≠ 0 then oneE s else if s.k = 5 ∧ n = 0 then 130 else clpE (opn n s) l
/-- What is wrong with a list. -/
def chkS (l : List St) : Int := if 16384 < l.length then 4 else clpE 0 l
theorem clpE_cons {n : Nat} {s : St} {l : List St} (h : clpE n (s :: l) = 0) : oneE s = 0 ∧ ¬ (s.k = 5 ∧ n = 0) ∧ clpE (opn n s) l = 0 := by
  unfold clpE at h
  split at h
  · next h1 => exact absurd h h1
  · next h1 =>
    split at h
    · cases h
    · next h2 => exact ⟨Decidable.not_not.1 h1, h2, h⟩
theorem clpE_mk {n : Nat} {s : St} {l : List St} (h1 : oneE s = 0) (h2 : ¬ (s.k = 5 ∧ n = 0)) (h3 : clpE (opn n s) l = 0) : clpE n (s :: l) = 0 := by
  unfold clpE
  rw [if_neg (by simp [h1]), if_neg h2, h3]
theorem chkS_zero {l : List St} (h : chkS l = 0) : l.length ≤ 16384 ∧ clpE 0 l = 0 := by
  unfold chkS at h
  split at h
  · cases h
  · next h1 => exact ⟨by omega, h⟩

/-- The rectangle in which a stroke shows, below clips (the innermost first). -/
def topR (cs : List Rc) (r : Rc) : Rc :=
  match cs with
  | [] => r
  | c :: _ => zMe r c
def shR (cs : List Rc) (s : St) : Rc := if zEm (topR cs s.r) = true then zr else topR cs s.r
def nxC (cs : List Rc) (s : St) : List Rc := if s.k = 4 then shR cs s :: cs else if s.k = 5 then cs.tail else cs
/-- Strokes, each with the rectangle in which it shows. -/
def ann : List Rc → List St → List (St × Rc)
  | _, [] => []
  | cs, s :: l => (s, shR cs s) :: ann (nxC cs s) l
def endC : List Rc → List St → List Rc
  | cs, [] => cs
  | cs, s :: l => endC (nxC cs s) l
theorem ann_app : ∀ (a b : List St) (cs : List Rc), ann cs (a ++ b) = ann cs a ++ ann (endC cs a) b
  | [], _, _ => rfl
  | s :: a, b, cs => by show _ :: ann (nxC cs s) (a ++ b) = _; rw [ann_app a b]; rfl
theorem endC_app : ∀ (a b : List St) (cs : List Rc), endC cs (a ++ b) = endC (endC cs a) b
  | [], _, _ => rfl
  | s :: a, b, cs => endC_app a b (nxC cs s)
theorem ann_len : ∀ (l : List St) (cs : List Rc), (ann cs l).length = l.length
  | [], _ => rfl
  | s :: l, cs => by show (ann (nxC cs s) l).length + 1 = _; rw [ann_len l]; rfl
theorem ann_fst : ∀ (l : List St) (cs : List Rc), (ann cs l).map Prod.fst = l
  | [], _ => rfl
  | s :: l, cs => by show s :: (ann (nxC cs s) l).map Prod.fst = _; rw [ann_fst l]
theorem nxC_len (cs : List Rc) (s : St) : (nxC cs s).length = opn cs.length s := by
  unfold nxC opn
  split
  · rfl
  · split
    · exact List.length_tail
    · rfl

def drw (s : St) : Bool := decide (s.k < 4)
/-- What is flat of a list. -/
def flaL (l : List St) : List (St × Rc) := (ann [] l).filter fun p => drw p.1
def sidR (q : Rc) : List Rc := [btw q.x q.y (q.x + q.w) (q.y + 1), btw q.x q.y (q.x + 1) (q.y + q.h), btw (q.x + q.w - 1) q.y (q.x + q.w) (q.y + q.h), btw q.x (q.y + q.h - 1) (q.x + q.w) (q.y + q.h)]
def noP (s : St) (r : Rc) : Bool := zEm r || ((s.k == 3 && s.t.size == 0) || ((!(s.k == 3) && s.c.a == 0) || !drw s))
/-- The places at which a stroke shows. -/
def plc (s : St) (r : Rc) : List Rc := if noP s r = true then [] else if s.k = 2 then ((sidR s.r).map (fun q => zMe q r)).filter (fun q => !zEm q) else [r]
def plA (l : List (St × Rc)) : List Rc := l.flatMap fun p => plc p.1 p.2
def opq (s : St) : Bool := s.k == 1 && s.c.a == 255
def hidB (p : St × Rc) (t : List (St × Rc)) : Bool := drw p.1 && ((plc p.1 p.2).isEmpty || t.any fun q => opq q.1 && (plc p.1 p.2).all fun a => zIn a q.2)
def kepN : List (St × Rc) → List (St × Rc)
  | [] => []
  | p :: t => if hidB p t = true then kepN t else p :: kepN t
/-- Without idle pairs. -/
def bz {α : Type} (kd : α → Int) : List α → List α → List α
  | o, [] => o.reverse
  | [], s :: l => bz kd [s] l
  | c :: o, s :: l => if kd s = 5 ∧ kd c = 4 then bz kd o l else bz kd (s :: c :: o) l
def busy (l : List St) : List St := bz St.k [] l
def busA (l : List (St × Rc)) : List (St × Rc) := bz (fun p => p.1.k) [] l
def norL (l : List St) : List St := busy ((kepN (ann [] l)).map Prod.fst)
def cliS (q : Rc) : St := ⟨4, q, ⟨0, 0, 0, 0⟩, ⟨0, 0, 0, 0⟩, ⟨#[]⟩, 0⟩
def opeS : St := ⟨5, zr, ⟨0, 0, 0, 0⟩, ⟨0, 0, 0, 0⟩, ⟨#[]⟩, 0⟩
def witP (q : Rc) (p : St × Rc) : Bool := !drw p.1 || (plc p.1 p.2).any fun a => zOv a q
def grpL (A : List (St × Rc)) (q : Rc) : List St := busy (cliS q :: ((A.filter (witP q)).map Prod.fst ++ [opeS]))
def witA (l : List St) (F : List Rc) : List St := F.flatMap (grpL (ann [] l))

/-- Idle pairs left out, one by one. -/
inductive Idl {α : Type} (kd : α → Int) : List α → List α → Prop
  | refl (l : List α) : Idl kd l l
  | step (a b m : List α) (c o : α) : kd c = 4 → kd o = 5 → Idl kd (a ++ b) m → Idl kd (a ++ c :: o :: b) m
theorem bz_idl {α : Type} (kd : α → Int) : ∀ (l o : List α), Idl kd (o.reverse ++ l) (bz kd o l)
  | [], o => by
    cases o with
    | nil => exact .refl _
    | cons c o => unfold bz; rw [List.append_nil]; exact .refl _
  | s :: l, [] => by
    unfold bz
    exact bz_idl kd l [s]
  | s :: l, c :: o => by
    unfold bz
    split
    · next h =>
      rw [List.reverse_cons, List.append_assoc]
      exact .step _ _ _ c s h.2 h.1 (bz_idl kd l o)
    · have := bz_idl kd l (s :: c :: o)
      rwa [List.reverse_cons, List.append_assoc] at this
theorem bz_pair {α : Type} (kd : α → Int) {c s : α} (hc : kd c = 4) (hs : kd s = 5) (b : List α) : ∀ (a o : List α), bz kd o (a ++ c :: s :: b) = bz kd o (a ++ b)
  | [], [] => by
    show bz kd [] (c :: s :: b) = bz kd [] b
    rw [bz, bz, if_pos ⟨hs, hc⟩]
  | [], d :: o => by
    show bz kd (d :: o) (c :: s :: b) = bz kd (d :: o) b
    rw [bz, if_neg (by rw [hc]; intro h; cases h.1), bz, if_pos ⟨hs, hc⟩]
  | x :: a, [] => by
    show bz kd [] (x :: (a ++ c :: s :: b)) = bz kd [] (x :: (a ++ b))
    rw [bz, bz, bz_pair kd hc hs b a]
  | x :: a, d :: o => by
    show bz kd (d :: o) (x :: (a ++ c :: s :: b)) = bz kd (d :: o) (x :: (a ++ b))
    rw [bz, bz, bz_pair kd hc hs b a, bz_pair kd hc hs b a]
theorem idl_bz {α : Type} {kd : α → Int} {l m : List α} (h : Idl kd l m) : bz kd [] l = bz kd [] m := by
  induction h with
  | refl => rfl
  | step a b m c o hc ho _ ih => rw [bz_pair kd hc ho b a, ih]
/-- No idle pair. -/
def nid {α : Type} (kd : α → Int) : List α → Prop
  | [] => True
  | [_] => True
  | a :: b :: l => ¬ (kd a = 4 ∧ kd b = 5) ∧ nid kd (b :: l)
def nidR {α : Type} (kd : α → Int) : List α → Prop
  | [] => True
  | [_] => True
  | a :: b :: l => ¬ (kd a = 5 ∧ kd b = 4) ∧ nidR kd (b :: l)
theorem nid_snoc {α : Type} (kd : α → Int) (x : α) : ∀ (l : List α) (y : α), nid kd (l ++ [y]) → ¬ (kd y = 4 ∧ kd x = 5) → nid kd (l ++ [y, x])
  | [], _, _, h => ⟨h, trivial⟩
  | [_], _, h1, h2 => ⟨h1.1, h2, trivial⟩
  | _ :: b :: l, y, h1, h2 => ⟨h1.1, nid_snoc kd x (b :: l) y h1.2 h2⟩
theorem nidR_rev {α : Type} (kd : α → Int) : ∀ l : List α, nidR kd l → nid kd l.reverse
  | [], _ => trivial
  | [_], _ => trivial
  | a :: b :: l, h => by
    have ih := nidR_rev kd (b :: l) h.2
    rw [List.reverse_cons] at ih
    rw [List.reverse_cons, List.reverse_cons, List.append_assoc]
    exact nid_snoc kd a l.reverse b ih fun e => h.1 ⟨e.2, e.1⟩
theorem nidR_tail {α : Type} {kd : α → Int} {a : α} : ∀ {l : List α}, nidR kd (a :: l) → nidR kd l
  | [], _ => trivial
  | _ :: _, h => h.2
theorem bz_nid {α : Type} (kd : α → Int) : ∀ (l o : List α), nidR kd o → nid kd (bz kd o l)
  | [], o, h => by
    have := nidR_rev kd o h
    cases o <;> exact this
  | s :: l, [], _ => by
    unfold bz
    exact bz_nid kd l [s] trivial
  | s :: l, c :: o, h => by
    unfold bz
    split
    · exact bz_nid kd l o (nidR_tail h)
    · next h1 => exact bz_nid kd l (s :: c :: o) ⟨h1, h⟩
theorem nid_app {α : Type} {kd : α → Int} {c s : α} {b : List α} (hc : kd c = 4) (hs : kd s = 5) : ∀ (a : List α), ¬ nid kd (a ++ c :: s :: b)
  | [], h => h.1 ⟨hc, hs⟩
  | [_], h => h.2.1 ⟨hc, hs⟩
  | _ :: y :: a, h => nid_app hc hs (y :: a) h.2
theorem idl_nid {α : Type} {kd : α → Int} {l m : List α} (h : Idl kd l m) (hn : nid kd l) : m = l := by
  cases h with
  | refl => rfl
  | step a b _ c o hc ho _ => exact absurd hn (nid_app hc ho a)
/-- A list without idle pairs is what is left of itself. -/
theorem bz_same {α : Type} (kd : α → Int) {l : List α} (h : nid kd l) : bz kd [] l = l := idl_nid (bz_idl kd l []) h
/-- Whatever pairs are left out, in whatever order: where none is left, it is this. -/
theorem idl_unique {α : Type} {kd : α → Int} {l m : List α} (h : Idl kd l m) (hn : nid kd m) : m = bz kd [] l := by
  rw [idl_bz h, bz_same kd hn]
theorem bz_map {α β : Type} (kd : α → Int) (ke : β → Int) (f : α → β) (hf : ∀ x, ke (f x) = kd x) : ∀ (l o : List α), (bz kd o l).map f = bz ke (o.map f) (l.map f)
  | [], o => by cases o <;> simp [bz]
  | s :: l, [] => by
    show (bz kd [s] l).map f = bz ke [f s] (l.map f)
    exact bz_map kd ke f hf l [s]
  | s :: l, c :: o => by
    show (bz kd (c :: o) (s :: l)).map f = bz ke (f c :: o.map f) (f s :: l.map f)
    rw [bz, bz, hf, hf]
    split
    · exact bz_map kd ke f hf l o
    · exact bz_map kd ke f hf l (s :: c :: o)
theorem idl_sub {α : Type} {kd : α → Int} {l m : List α} (h : Idl kd l m) : m.Sublist l := by
  induction h with
  | refl l => exact List.Sublist.refl l
  | step a b m c o _ _ _ ih =>
    refine ih.trans ?_
    exact List.Sublist.append (List.Sublist.refl a) (((List.Sublist.refl b).cons o).cons c)
theorem busy_len (l : List St) : (busy l).length ≤ l.length := (idl_sub (bz_idl St.k l [])).length_le

/-- A clip that is closed at once changes nothing behind it. -/
theorem nxC_pair (cs : List Rc) {c o : St} (hc : c.k = 4) (ho : o.k = 5) : nxC (nxC cs c) o = cs := by
  unfold nxC
  rw [if_pos hc, if_neg (by omega), if_pos ho]
  rfl
theorem endC_pair (cs : List Rc) (a b : List St) {c o : St} (hc : c.k = 4) (ho : o.k = 5) : endC cs (a ++ c :: o :: b) = endC cs (a ++ b) := by
  rw [endC_app, endC_app]
  show endC (nxC (nxC (endC cs a) c) o) b = _
  rw [nxC_pair _ hc ho]
theorem ann_pair (cs : List Rc) (a b : List St) {c o : St} (hc : c.k = 4) (ho : o.k = 5) : ann cs (a ++ c :: o :: b) = ann cs a ++ (c, shR (endC cs a) c) :: (o, shR (nxC (endC cs a) c) o) :: ann (endC cs a) b := by
  rw [ann_app]
  show _ ++ _ :: _ :: ann (nxC (nxC (endC cs a) c) o) b = _
  rw [nxC_pair _ hc ho]
theorem clpE_pair {c o : St} (hc : c.k = 4) (ho : o.k = 5) (b : List St) : ∀ (a : List St) (n : Nat), clpE n (a ++ c :: o :: b) = 0 → clpE n (a ++ b) = 0
  | [], n, h => by
    obtain ⟨_, _, h⟩ := clpE_cons (show clpE n (c :: o :: b) = 0 from h)
    obtain ⟨_, _, h⟩ := clpE_cons h
    have e : opn (opn n c) o = n := by
      unfold opn
      rw [if_pos hc, if_neg (by omega), if_pos ho]
      rfl
    rw [e] at h
    exact h
  | s :: a, n, h => by
    obtain ⟨h1, h2, h3⟩ := clpE_cons (show clpE n (s :: (a ++ c :: o :: b)) = 0 from h)
    exact clpE_mk h1 h2 (clpE_pair hc ho b a _ h3)
theorem idl_clp {l m : List St} (h : Idl St.k l m) (n : Nat) (hc : clpE n l = 0) : clpE n m = 0 := by
  induction h with
  | refl => exact hc
  | step a b m c o h1 h2 _ ih => exact ih (clpE_pair h1 h2 b a n hc)
/-- Left out of a list, pairs are left out of it with its rectangles. -/
theorem idl_ann (cs : List Rc) {l m : List St} (h : Idl St.k l m) : Idl (fun p : St × Rc => p.1.k) (ann cs l) (ann cs m) := by
  induction h with
  | refl => exact .refl _
  | step a b m c o h1 h2 _ ih =>
    rw [ann_pair cs a b h1 h2]
    rw [ann_app] at ih
    exact .step _ _ _ (c, _) (o, _) h1 h2 ih
theorem ann_busy (cs : List Rc) (l : List St) : ann cs (busy l) = busA (ann cs l) := by
  have h := idl_ann cs (bz_idl St.k l [])
  refine idl_unique h ?_
  have h1 := bz_nid St.k l [] trivial
  have h2 : ∀ (x : List St) (cs : List Rc), nid St.k x → nid (fun p : St × Rc => p.1.k) (ann cs x) := by
    intro x
    induction x with
    | nil => intro _ _; trivial
    | cons s x ih =>
      intro cs h
      cases x with
      | nil => trivial
      | cons q x => exact ⟨h.1, ih _ h.2⟩
  exact h2 _ cs h1

/-- Without some strokes that draw. -/
inductive Dro : List (St × Rc) → List (St × Rc) → Prop
  | nil : Dro [] []
  | keep (p : St × Rc) {l m : List (St × Rc)} : Dro l m → Dro (p :: l) (p :: m)
  | drop (p : St × Rc) {l m : List (St × Rc)} : drw p.1 = true → Dro l m → Dro (p :: l) m
theorem nxC_drw (cs : List Rc) {s : St} (h : drw s = true) : nxC cs s = cs := by
  unfold drw at h
  have h := of_decide_eq_true h
  unfold nxC
  rw [if_neg (by omega), if_neg (by omega)]
theorem opn_drw (n : Nat) {s : St} (h : drw s = true) : opn n s = n := by
  unfold drw at h
  have h := of_decide_eq_true h
  unfold opn
  rw [if_neg (by omega), if_neg (by omega)]
theorem dro_ann : ∀ (l : List St) (cs : List Rc) {m : List (St × Rc)}, Dro (ann cs l) m → ann cs (m.map Prod.fst) = m
  | [], _, _, h => by cases h; rfl
  | s :: l, cs, m, h => by
    change Dro ((s, shR cs s) :: ann (nxC cs s) l) m at h
    cases h with
    | keep p h' => show (s, shR cs s) :: ann (nxC cs s) (List.map Prod.fst _) = _; rw [dro_ann l _ h']
    | drop p hd h' =>
      rw [nxC_drw cs hd] at h'
      exact dro_ann l _ h'
theorem dro_clp : ∀ (l : List St) (cs : List Rc) (n : Nat) {m : List (St × Rc)}, Dro (ann cs l) m → clpE n l = 0 → clpE n (m.map Prod.fst) = 0
  | [], _, _, _, h, hc => by cases h; exact hc
  | s :: l, cs, n, m, h, hc => by
    obtain ⟨h1, h2, h3⟩ := clpE_cons hc
    change Dro ((s, shR cs s) :: ann (nxC cs s) l) m at h
    cases h with
    | keep p h' => exact clpE_mk h1 h2 (dro_clp l _ _ h' h3)
    | drop p hd h' =>
      rw [opn_drw n hd] at h3
      exact dro_clp l _ _ h' h3
theorem dro_endC : ∀ (l : List St) (cs : List Rc) {m : List (St × Rc)}, Dro (ann cs l) m → endC cs (m.map Prod.fst) = endC cs l
  | [], _, _, h => by cases h; rfl
  | s :: l, cs, m, h => by
    change Dro ((s, shR cs s) :: ann (nxC cs s) l) m at h
    cases h with
    | keep p h' => exact dro_endC l _ h'
    | drop p hd h' =>
      have e : nxC cs s = cs := nxC_drw cs hd
      rw [e] at h'
      show _ = endC (nxC cs s) l
      rw [e]
      exact dro_endC l _ h'
theorem dro_kepN : ∀ l : List (St × Rc), Dro l (kepN l)
  | [] => .nil
  | p :: t => by
    unfold kepN
    split
    · next h =>
      refine .drop p ?_ (dro_kepN t)
      unfold hidB at h
      exact (Bool.and_eq_true_iff.1 h).1
    · exact .keep p (dro_kepN t)
theorem dro_wit (q : Rc) : ∀ l : List (St × Rc), Dro l (l.filter (witP q))
  | [] => .nil
  | p :: t => by
    rw [List.filter_cons]
    split
    · exact .keep p (dro_wit q t)
    · next h =>
      refine .drop p ?_ (dro_wit q t)
      unfold witP at h
      cases e : drw p.1
      · rw [e] at h; simp at h
      · rfl
theorem dro_len {l m : List (St × Rc)} (h : Dro l m) : m.length ≤ l.length := by
  induction h with
  | nil => exact Nat.le_refl _
  | keep p _ ih => simp; omega
  | drop p _ _ ih => simp; omega
theorem dro_sub {l m : List (St × Rc)} (h : Dro l m) : m.Sublist l := by
  induction h with
  | nil => exact List.Sublist.refl _
  | keep p _ ih => exact ih.cons_cons p
  | drop p _ _ ih => exact ih.cons p

/-- Norm with its rectangles. -/
theorem ann_norL (l : List St) : ann [] (norL l) = busA (kepN (ann [] l)) := by
  unfold norL
  rw [ann_busy, dro_ann l [] (dro_kepN _)]
theorem norL_len (l : List St) : (norL l).length ≤ l.length := by
  have h1 := busy_len ((kepN (ann [] l)).map Prod.fst)
  have h2 := dro_len (dro_kepN (ann [] l))
  rw [ann_len] at h2
  rw [List.length_map] at h1
  unfold norL
  omega
theorem norL_clp {l : List St} (h : clpE 0 l = 0) : clpE 0 (norL l) = 0 := idl_clp (bz_idl St.k _ []) 0 (dro_clp l [] 0 (dro_kepN _) h)
theorem norL_chk {l : List St} (h : chkS l = 0) : chkS (norL l) = 0 := by
  obtain ⟨h1, h2⟩ := chkS_zero h
  have := norL_len l
  unfold chkS
  rw [if_neg (by omega)]
  exact norL_clp h2

/-- Nothing in it is hidden. -/
def okN : List (St × Rc) → Prop
  | [] => True
  | p :: t => hidB p t = false ∧ okN t
theorem hidB_sub {p : St × Rc} {t u : List (St × Rc)} (h : u.Sublist t) (hp : hidB p t = false) : hidB p u = false := by
  unfold hidB at hp ⊢
  cases hd : drw p.1
  · rfl
  · rw [hd] at hp
    rw [Bool.true_and] at hp ⊢
    rw [Bool.or_eq_false_iff] at hp ⊢
    refine ⟨hp.1, ?_⟩
    rw [List.any_eq_false] at hp ⊢
    exact fun x hx => hp.2 x (h.subset hx)
theorem okN_sub {l m : List (St × Rc)} (h : m.Sublist l) : okN l → okN m := by
  induction h with
  | slnil => exact fun _ => trivial
  | cons p _ ih => exact fun h => ih h.2
  | cons_cons p h ih => exact fun k => ⟨hidB_sub h k.1, ih k.2⟩
theorem okN_kepN : ∀ l : List (St × Rc), okN (kepN l)
  | [] => trivial
  | p :: t => by
    unfold kepN
    split
    · exact okN_kepN t
    · next h => exact ⟨hidB_sub (dro_sub (dro_kepN t)) (Bool.eq_false_iff.2 h), okN_kepN t⟩
theorem kepN_same : ∀ l : List (St × Rc), okN l → kepN l = l
  | [], _ => rfl
  | p :: t, h => by
    unfold kepN
    rw [h.1, kepN_same t h.2]
    rfl
/-- Norm of Norm is Norm. -/
theorem norL_norL (l : List St) : norL (norL l) = norL l := by
  have h1 := ann_norL l
  have h2 : okN (ann [] (norL l)) := by
    rw [h1]
    exact okN_sub (idl_sub (bz_idl _ _ [])) (okN_kepN _)
  show busy ((kepN (ann [] (norL l))).map Prod.fst) = norL l
  rw [kepN_same _ h2, ann_fst]
  exact bz_same St.k (bz_nid St.k _ [] trivial)

end Go.Proofs.YtfjbnejmcanamaaGreatDoor

/-
  Contracts of the leaves of package geom: what each call answers; of what was there nothing turns.
-/
namespace Go.Proofs.YtfjbnejmcanamaaGreatDoor
open Go.RowKit

theorem bcell {W w1 : World} (hb : Below W.heap.size W w1) : (∀ b o, b < W.heap.size → w1.cell? ⟨b, o, none⟩ = W.cell? ⟨b, o, none⟩) ∧ (∀ b o, b < W.heap.size → w1.frozen? ⟨b, o, none⟩ = W.frozen? ⟨b, o, none⟩) :=
  ⟨fun b o h => hb.cell (p := ⟨b, o, none⟩) h, fun b o h => hb.frozen (p := ⟨b, o, none⟩) h⟩

theorem ret_bool {a b : Bool} (h : a = true ↔ b = true) : Ending.returned (.bool a) = .returned (.bool b) := by rw [Bool.eq_iff_iff.2 h]
theorem ret_int {a b : Int} (h : a = b) : Ending.returned (.int .i64 a) = .returned (.int .i64 b) := by rw [h]

/-- The builtin max, min, as the walk writes them. -/
theorem ite_max (x y : Int) : (if x < y then y else x) = max x y := by omega
theorem ite_min (x y : Int) : (if y < x then y else x) = min x y := by omega

/-- Sizes of worlds, for the walk's own reckoning. -/
theorem lt_s {a b : Nat} (h : a < b) : (a < b + 1) = True := by simp; omega
theorem le_s {a b : Nat} (h : a ≤ b) : (a ≤ b + 1) = True := by simp; omega
theorem le_lt {a b : Nat} (h : a < b) : (a ≤ b) = True := by simp; omega

/-- A block that holds a rectangle; a point. -/
def At4 (w : World) (b : Nat) (x y n m : Int) : Prop := w.cell? ⟨b, 0, none⟩ = some (.int .i64 x) ∧ w.cell? ⟨b, 1, none⟩ = some (.int .i64 y) ∧ w.cell? ⟨b, 2, none⟩ = some (.int .i64 n) ∧ w.cell? ⟨b, 3, none⟩ = some (.int .i64 m)
def At2 (w : World) (b : Nat) (x y : Int) : Prop := w.cell? ⟨b, 0, none⟩ = some (.int .i64 x) ∧ w.cell? ⟨b, 1, none⟩ = some (.int .i64 y)
theorem lt_of_cell {w : World} {b o : Nat} {u : Value} (h : w.cell? ⟨b, o, none⟩ = some u) : b < w.heap.size := World.block_lt_of_cell? w ⟨b, o, none⟩ h
theorem keepAt {W w1 : World} (hb : Below W.heap.size W w1) {b o0 : Nat} {u : Value} (h : W.cell? ⟨b, o0, none⟩ = some u) : ∀ o, w1.cell? ⟨b, o, none⟩ = W.cell? ⟨b, o, none⟩ :=
  fun o => hb.cell (p := ⟨b, o, none⟩) (lt_of_cell h)
theorem over_alloc {w : World} {b o : Nat} {u : Value} (h : w.cell? ⟨b, o, none⟩ = some u) (ob : Obj) : (w.alloc ob).cell? ⟨b, o, none⟩ = some u :=
  (keepAt ((Below.refl _ _).alloc (Nat.le_refl _) ob) h o).trans h
theorem over_drew {w : World} {b o : Nat} {u : Value} (h : w.cell? ⟨b, o, none⟩ = some u) : w.drew.cell? ⟨b, o, none⟩ = some u := h
theorem At4.drew {w : World} {b : Nat} {x y n m : Int} (h : At4 w b x y n m) : At4 w.drew b x y n m := h
theorem At2.drew {w : World} {b : Nat} {x y : Int} (h : At2 w b x y) : At2 w.drew b x y := h
theorem At4.lt {w : World} {b : Nat} {x y n m : Int} (h : At4 w b x y n m) : b < w.heap.size := lt_of_cell h.1
theorem At2.lt {w : World} {b : Nat} {x y : Int} (h : At2 w b x y) : b < w.heap.size := lt_of_cell h.1
theorem At4.below {W w1 : World} {b : Nat} {x y n m : Int} (h : At4 W b x y n m) (hb : Below W.heap.size W w1) : At4 w1 b x y n m := by
  have k := keepAt hb h.1
  exact ⟨(k 0).trans h.1, (k 1).trans h.2.1, (k 2).trans h.2.2.1, (k 3).trans h.2.2.2⟩
theorem At2.below {W w1 : World} {b : Nat} {x y : Int} (h : At2 W b x y) (hb : Below W.heap.size W w1) : At2 w1 b x y := by
  have k := keepAt hb h.1
  exact ⟨(k 0).trans h.1, (k 1).trans h.2⟩
theorem At4.alloc {w : World} {b : Nat} {x y n m : Int} (h : At4 w b x y n m) (o : Obj) : At4 (w.alloc o) b x y n m := h.below ((Below.refl _ _).alloc (Nat.le_refl _) o)
theorem At2.alloc {w : World} {b : Nat} {x y : Int} (h : At2 w b x y) (o : Obj) : At2 (w.alloc o) b x y := h.below ((Below.refl _ _).alloc (Nat.le_refl _) o)
theorem At4.new (w : World) (x y n m : Int) (t : TypeId) : At4 (w.alloc (.cells #[.int .i64 x, .int .i64 y, .int .i64 n, .int .i64 m] t)) w.heap.size x y n m := by
  unfold At4; simp
theorem At2.new (w : World) (x y : Int) (t : TypeId) : At2 (w.alloc (.cells #[.int .i64 x, .int .i64 y] t)) w.heap.size x y := by
  unfold At2; simp
theorem At2.new' (w : World) (b : Nat) (x y : Int) (t : TypeId) (h : b = w.heap.size) : At2 (w.alloc (.cells #[.int .i64 x, .int .i64 y] t)) b x y := by
  rw [h]; exact At2.new w x y t
theorem At4.new' (w : World) (b : Nat) (x y n m : Int) (t : TypeId) (h : b = w.heap.size) : At4 (w.alloc (.cells #[.int .i64 x, .int .i64 y, .int .i64 n, .int .i64 m] t)) b x y n m := by
  rw [h]; exact At4.new w x y n m t
theorem At4.set {w : World} {b : Nat} {x y n m : Int} (h : At4 w b x y n m) {p : Addr} (v : Value) (hp : p.block ≠ b) : At4 (w.setCell p v) b x y n m := by
  have k : ∀ o, (w.setCell p v).cell? ⟨b, o, none⟩ = w.cell? ⟨b, o, none⟩ := fun o => World.cell?_setCell_other w p ⟨b, o, none⟩ v (fun e => hp (by rw [e]))
  exact ⟨(k 0).trans h.1, (k 1).trans h.2.1, (k 2).trans h.2.2.1, (k 3).trans h.2.2.2⟩
theorem At2.set {w : World} {b : Nat} {x y : Int} (h : At2 w b x y) {p : Addr} (v : Value) (hp : p.block ≠ b) : At2 (w.setCell p v) b x y := by
  have k : ∀ o, (w.setCell p v).cell? ⟨b, o, none⟩ = w.cell? ⟨b, o, none⟩ := fun o => World.cell?_setCell_other w p ⟨b, o, none⟩ v (fun e => hp (by rw [e]))
  exact ⟨(k 0).trans h.1, (k 1).trans h.2⟩

theorem At2.put {w : World} {b : Nat} {u v : Int} (h : At2 w b u v) (x y : Int) : At2 ((w.setCell ⟨b, 0, none⟩ (.int .i64 x)).setCell ⟨b, 1, none⟩ (.int .i64 y)) b x y := by
  obtain ⟨h0, h1⟩ := h
  unfold At2
  simp [go_sem, h0, h1]
theorem At4.put {w : World} {b : Nat} {u0 u1 u2 u3 : Int} (h : At4 w b u0 u1 u2 u3) (x y n m : Int) : At4 ((((w.setCell ⟨b, 0, none⟩ (.int .i64 x)).setCell ⟨b, 1, none⟩ (.int .i64 y)).setCell ⟨b, 2, none⟩ (.int .i64 n)).setCell ⟨b, 3, none⟩ (.int .i64 m)) b x y n m := by
  obtain ⟨h0, h1, h2, h3⟩ := h
  unfold At4
  simp [go_sem, h0, h1, h2, h3]

/-- A block that may be written. -/
def Fr (w : World) (b : Nat) : Prop := b < w.heap.size ∧ ∀ o, w.frozen? ⟨b, o, none⟩ = false
theorem Fr.below {W w1 : World} {b : Nat} (h : Fr W b) (hb : Below W.heap.size W w1) : Fr w1 b :=
  ⟨Nat.lt_of_lt_of_le h.1 hb.size, fun o => (hb.frozen (p := ⟨b, o, none⟩) h.1).trans (h.2 o)⟩
theorem Fr.alloc {w : World} {b : Nat} (h : Fr w b) (o : Obj) : Fr (w.alloc o) b := h.below ((Below.refl _ _).alloc (Nat.le_refl _) o)
theorem Fr.set {w : World} {b : Nat} (h : Fr w b) (p : Addr) (v : Value) : Fr (w.setCell p v) b := ⟨by simpa [World.setCell] using h.1, fun o => by rw [World.frozen?_setCell]; exact h.2 o⟩
theorem Fr.drew {w : World} {b : Nat} (h : Fr w b) : Fr w.drew b := h
theorem Fr.new (w : World) (c : Array Value) (t : TypeId) : Fr (w.alloc (.cells c t)) w.heap.size := ⟨by simp, fun o => by simp⟩
theorem fr1 (w : World) (o1 : Obj) (c : Array Value) (t : TypeId) : Fr ((w.alloc o1).alloc (.cells c t)) (w.heap.size + 1) := by
  have h := Fr.new (w.alloc o1) c t
  rwa [World.size_alloc] at h
theorem fr2 (w : World) (o1 o2 : Obj) (c : Array Value) (t : TypeId) : Fr (((w.alloc o1).alloc o2).alloc (.cells c t)) (w.heap.size + 1 + 1) := by
  have h := Fr.new ((w.alloc o1).alloc o2) c t
  rwa [World.size_alloc, World.size_alloc] at h
/-- A rectangle stored into a block of the call's own. -/
theorem set4_below {B b : Nat} {w w1 : World} (L : Below B w w1) (h : B ≤ b) (v0 v1 v2 v3 : Value) : Below B w ((((w1.setCell ⟨b, 0, none⟩ v0).setCell ⟨b, 1, none⟩ v1).setCell ⟨b, 2, none⟩ v2).setCell ⟨b, 3, none⟩ v3) :=
  (((L.setCell h v0).setCell h v1).setCell h v2).setCell h v3
theorem boxes_r (w : World) (x y n m : Int) (t : TypeId) : At4 (w.alloc (.cells #[.int .i64 x, .int .i64 y, .int .i64 n, .int .i64 m] t)) w.heap.size x y n m ∧
    Below w.heap.size w (w.alloc (.cells #[.int .i64 x, .int .i64 y, .int .i64 n, .int .i64 m] t)) :=
  ⟨At4.new w x y n m t, (Below.refl _ w).alloc (Nat.le_refl _) _⟩
theorem boxes_rp (w : World) (x y n m px py : Int) (t t' : TypeId) : At4 ((w.alloc (.cells #[.int .i64 x, .int .i64 y, .int .i64 n, .int .i64 m] t)).alloc (.cells #[.int .i64 px, .int .i64 py] t')) w.heap.size x y n m ∧
    At2 ((w.alloc (.cells #[.int .i64 x, .int .i64 y, .int .i64 n, .int .i64 m] t)).alloc (.cells #[.int .i64 px, .int .i64 py] t')) (w.heap.size + 1) px py ∧
    Below w.heap.size w ((w.alloc (.cells #[.int .i64 x, .int .i64 y, .int .i64 n, .int .i64 m] t)).alloc (.cells #[.int .i64 px, .int .i64 py] t')) := by
  have B := At2.new (w.alloc (.cells #[.int .i64 x, .int .i64 y, .int .i64 n, .int .i64 m] t)) px py t'
  simp only [World.size_alloc] at B
  exact ⟨(At4.new w x y n m t).alloc _, B, ((Below.refl _ w).alloc (Nat.le_refl _) _).alloc (by simp) _⟩
theorem boxes_rr (w : World) (ax ay aw ah bx by' bw bh : Int) (t t' : TypeId) : At4 ((w.alloc (.cells #[.int .i64 ax, .int .i64 ay, .int .i64 aw, .int .i64 ah] t)).alloc (.cells #[.int .i64 bx, .int .i64 by', .int .i64 bw, .int .i64 bh] t')) w.heap.size ax ay aw ah ∧
    At4 ((w.alloc (.cells #[.int .i64 ax, .int .i64 ay, .int .i64 aw, .int .i64 ah] t)).alloc (.cells #[.int .i64 bx, .int .i64 by', .int .i64 bw, .int .i64 bh] t')) (w.heap.size + 1) bx by' bw bh ∧
    Below w.heap.size w ((w.alloc (.cells #[.int .i64 ax, .int .i64 ay, .int .i64 aw, .int .i64 ah] t)).alloc (.cells #[.int .i64 bx, .int .i64 by', .int .i64 bw, .int .i64 bh] t')) := by
  have B := At4.new (w.alloc (.cells #[.int .i64 ax, .int .i64 ay, .int .i64 aw, .int .i64 ah] t)) bx by' bw bh t'
  simp only [World.size_alloc] at B
  exact ⟨(At4.new w ax ay aw ah t).alloc _, B, ((Below.refl _ w).alloc (Nat.le_refl _) _).alloc (by simp) _⟩

theorem boxes_ppr (w : World) (ax ay bx by' : Int) (t t' t'' : TypeId) : At2 (((w.alloc (.cells #[.int .i64 ax, .int .i64 ay] t)).alloc (.cells #[.int .i64 bx, .int .i64 by'] t')).alloc (.cells #[.int .i64 0, .int .i64 0, .int .i64 0, .int .i64 0] t'')) w.heap.size ax ay ∧
    At2 (((w.alloc (.cells #[.int .i64 ax, .int .i64 ay] t)).alloc (.cells #[.int .i64 bx, .int .i64 by'] t')).alloc (.cells #[.int .i64 0, .int .i64 0, .int .i64 0, .int .i64 0] t'')) (w.heap.size + 1) bx by' ∧
    At4 (((w.alloc (.cells #[.int .i64 ax, .int .i64 ay] t)).alloc (.cells #[.int .i64 bx, .int .i64 by'] t')).alloc (.cells #[.int .i64 0, .int .i64 0, .int .i64 0, .int .i64 0] t'')) (w.heap.size + 1 + 1) 0 0 0 0 ∧
    Below w.heap.size w (((w.alloc (.cells #[.int .i64 ax, .int .i64 ay] t)).alloc (.cells #[.int .i64 bx, .int .i64 by'] t')).alloc (.cells #[.int .i64 0, .int .i64 0, .int .i64 0, .int .i64 0] t'')) := by
  have B := (At2.new (w.alloc (.cells #[.int .i64 ax, .int .i64 ay] t)) bx by' t').alloc (.cells #[.int .i64 0, .int .i64 0, .int .i64 0, .int .i64 0] t'')
  have C := At4.new ((w.alloc (.cells #[.int .i64 ax, .int .i64 ay] t)).alloc (.cells #[.int .i64 bx, .int .i64 by'] t')) 0 0 0 0 t''
  simp only [World.size_alloc] at B C
  exact ⟨((At2.new w ax ay t).alloc _).alloc _, B, C, (((Below.refl _ w).alloc (Nat.le_refl _) _).alloc (by simp) _).alloc (by simp; omega) _⟩

/-- What a call that takes two rectangles and answers one has laid when it begins. -/
theorem boxes_rrr (w : World) (ax ay aw ah bx by' bw bh : Int) (t t' t'' : TypeId) : At4 (((w.alloc (.cells #[.int .i64 ax, .int .i64 ay, .int .i64 aw, .int .i64 ah] t)).alloc (.cells #[.int .i64 bx, .int .i64 by', .int .i64 bw, .int .i64 bh] t')).alloc (.cells #[.int .i64 0, .int .i64 0, .int .i64 0, .int .i64 0] t'')) w.heap.size ax ay aw ah ∧
    At4 (((w.alloc (.cells #[.int .i64 ax, .int .i64 ay, .int .i64 aw, .int .i64 ah] t)).alloc (.cells #[.int .i64 bx, .int .i64 by', .int .i64 bw, .int .i64 bh] t')).alloc (.cells #[.int .i64 0, .int .i64 0, .int .i64 0, .int .i64 0] t'')) (w.heap.size + 1) bx by' bw bh ∧
    At4 (((w.alloc (.cells #[.int .i64 ax, .int .i64 ay, .int .i64 aw, .int .i64 ah] t)).alloc (.cells #[.int .i64 bx, .int .i64 by', .int .i64 bw, .int .i64 bh] t')).alloc (.cells #[.int .i64 0, .int .i64 0, .int .i64 0, .int .i64 0] t'')) (w.heap.size + 1 + 1) 0 0 0 0 ∧
    Below w.heap.size w (((w.alloc (.cells #[.int .i64 ax, .int .i64 ay, .int .i64 aw, .int .i64 ah] t)).alloc (.cells #[.int .i64 bx, .int .i64 by', .int .i64 bw, .int .i64 bh] t')).alloc (.cells #[.int .i64 0, .int .i64 0, .int .i64 0, .int .i64 0] t'')) := by
  have B := (At4.new (w.alloc (.cells #[.int .i64 ax, .int .i64 ay, .int .i64 aw, .int .i64 ah] t)) bx by' bw bh t').alloc (.cells #[.int .i64 0, .int .i64 0, .int .i64 0, .int .i64 0] t'')
  have C := At4.new ((w.alloc (.cells #[.int .i64 ax, .int .i64 ay, .int .i64 aw, .int .i64 ah] t)).alloc (.cells #[.int .i64 bx, .int .i64 by', .int .i64 bw, .int .i64 bh] t')) 0 0 0 0 t''
  simp only [World.size_alloc] at B C
  exact ⟨((At4.new w ax ay aw ah t).alloc _).alloc _, B, C, (((Below.refl _ w).alloc (Nat.le_refl _) _).alloc (by simp) _).alloc (by simp; omega) _⟩

set_option maxHeartbeats 400000 in
theorem span_any (p n : Int) (w : World) (hp : I64 p) :
    Calls Tryz.prog 64 #[.int .i64 p, .int .i64 n] w fun e w' => e = .returned (.bool (spanB p n)) ∧ w' = w := by
  obtain ⟨h1, h2⟩ := hp
  by_cases c1 : 0 ≤ n
  · by_cases c2 : -16384 ≤ p
    · go_enter Tryz.func64, Tryz.ntmps64
      go_wp2
      go_ret
      exact ⟨by simp [spanB, c1, c2], rfl⟩
    · go_enter Tryz.func64, Tryz.ntmps64
      go_wp2
      go_ret
      exact ⟨by simp [spanB]; omega, rfl⟩
  · go_enter Tryz.func64, Tryz.ntmps64
    go_wp2
    go_ret
    exact ⟨by simp [spanB]; omega, rfl⟩

set_option maxHeartbeats 400000 in
theorem within_any (n lo hi : Int) (w : World) :
    Calls Tryz.prog 110 #[.int .i64 n, .int .i64 lo, .int .i64 hi] w fun e w' => e = .returned (.bool (witB n lo hi)) ∧ w' = w := by
  by_cases c1 : lo ≤ n
  · go_enter Tryz.func110, Tryz.ntmps110
    go_wp2
    go_ret
    exact ⟨by simp [witB, c1], rfl⟩
  · go_enter Tryz.func110, Tryz.ntmps110
    go_wp2
    go_ret
    exact ⟨by simp [witB]; omega, rfl⟩

set_option maxHeartbeats 400000 in
theorem check_any (x y n m : Int) (w : World) (hx : I64 x) (hy : I64 y) :
    Calls Tryz.prog 44 #[.agg #[.int .i64 x, .int .i64 y, .int .i64 n, .int .i64 m]] w fun e w' => e = .returned (.int .i64 (chk x y n m)) ∧ Below w.heap.size w w' := by
  cases h1 : spanB x n
  · go_enter Tryz.func44, Tryz.ntmps44
    go_wp2_with (go_at_call 64; refine (span_any _ _ _ (by assumption)).mono ?_; rintro e w' ⟨rfl, rfl⟩)
    go_ret
    exact ⟨by simp [chk, mayB, h1], (Below.refl _ _).alloc (Nat.le_refl _) _⟩
  · cases h2 : spanB y m
    · go_enter Tryz.func44, Tryz.ntmps44
      go_wp2_with (go_at_call 64; refine (span_any _ _ _ (by assumption)).mono ?_; rintro e w' ⟨rfl, rfl⟩)
      go_ret
      exact ⟨by simp [chk, mayB, h2], (Below.refl _ _).alloc (Nat.le_refl _) _⟩
    · go_enter Tryz.func44, Tryz.ntmps44
      go_wp2_with (go_at_call 64; refine (span_any _ _ _ (by assumption)).mono ?_; rintro e w' ⟨rfl, rfl⟩)
      go_ret
      exact ⟨by simp [chk, mayB, h1, h2], (Below.refl _ _).alloc (Nat.le_refl _) _⟩

set_option maxHeartbeats 400000 in
theorem empty_any (x y n m : Int) (w : World) (hx : I64 x) (hy : I64 y) :
    Calls Tryz.prog 26 #[.agg #[.int .i64 x, .int .i64 y, .int .i64 n, .int .i64 m]] w fun e w' => e = .returned (.bool (emptyB x y n m)) ∧ Below w.heap.size w w' := by
  have hk := chk_ne x y n m
  cases h1 : mayB x y n m
  · go_enter Tryz.func26, Tryz.ntmps26
    go_wp2_with fail
    refine (check_any _ _ _ _ _ (by assumption) (by assumption)).mono ?_
    rintro e w1 ⟨rfl, hb⟩
    obtain ⟨hc, hf⟩ := bcell hb
    go_wp2
    go_ret
    exact ⟨by simp [emptyB, h1], ((Below.refl _ _).alloc (Nat.le_refl _) _).trans (hb.mono (by simp))⟩
  · by_cases c1 : (n == 0) = true
    · go_enter Tryz.func26, Tryz.ntmps26
      go_wp2_with fail
      refine (check_any _ _ _ _ _ (by assumption) (by assumption)).mono ?_
      rintro e w1 ⟨rfl, hb⟩
      obtain ⟨hc, hf⟩ := bcell hb
      go_wp2
      go_ret
      exact ⟨by simp [emptyB, c1], ((Below.refl _ _).alloc (Nat.le_refl _) _).trans (hb.mono (by simp))⟩
    · have c1 : (n == 0) = false := by simpa using c1
      go_enter Tryz.func26, Tryz.ntmps26
      go_wp2_with fail
      refine (check_any _ _ _ _ _ (by assumption) (by assumption)).mono ?_
      rintro e w1 ⟨rfl, hb⟩
      obtain ⟨hc, hf⟩ := bcell hb
      go_wp2
      go_ret
      exact ⟨by simp [emptyB, h1, c1], ((Below.refl _ _).alloc (Nat.le_refl _) _).trans (hb.mono (by simp))⟩

set_option maxHeartbeats 400000 in
theorem between_any (lx ly hx hy : Int) (w : World) (b1 : -1000000 ≤ lx) (b2 : lx ≤ 1000000) (b3 : -1000000 ≤ ly) (b4 : ly ≤ 1000000) (b5 : -1000000 ≤ hx) (b6 : hx ≤ 1000000) (b7 : -1000000 ≤ hy) (b8 : hy ≤ 1000000) :
    Calls Tryz.prog 43 #[.agg #[.int .i64 lx, .int .i64 ly], .agg #[.int .i64 hx, .int .i64 hy]] w fun e w' => e = .returned (.agg #[.int .i64 (btw lx ly hx hy).x, .int .i64 (btw lx ly hx hy).y, .int .i64 (btw lx ly hx hy).w, .int .i64 (btw lx ly hx hy).h]) ∧ Below w.heap.size w w' := by
  by_cases c1 : hx ≤ lx
  · rw [btw_no (.inl c1)]
    go_enter Tryz.func43, Tryz.ntmps43
    go_wp2
    exact bodyPost_ret (v := .agg #[.int .i64 0, .int .i64 0, .int .i64 0, .int .i64 0]) (by simp [results, Tryz.results43, go_sem]) rfl ⟨rfl, (((Below.refl _ _).alloc (Nat.le_refl _) _).alloc (by simp) _).alloc (by simp; omega) _⟩
  · by_cases c2 : hy ≤ ly
    · rw [btw_no (.inr c2)]
      go_enter Tryz.func43, Tryz.ntmps43
      go_wp2
      exact bodyPost_ret (v := .agg #[.int .i64 0, .int .i64 0, .int .i64 0, .int .i64 0]) (by simp [results, Tryz.results43, go_sem]) rfl ⟨rfl, (((Below.refl _ _).alloc (Nat.le_refl _) _).alloc (by simp) _).alloc (by simp; omega) _⟩
    · rw [btw_yes (by omega) (by omega)]
      go_enter Tryz.func43, Tryz.ntmps43
      go_wp2
      exact bodyPost_ret (v := .agg #[.int .i64 lx, .int .i64 ly, .int .i64 (hx - lx), .int .i64 (hy - ly)]) (by simp [results, Tryz.results43, go_sem]) rfl ⟨rfl, (((Below.refl _ _).alloc (Nat.le_refl _) _).alloc (by simp) _).alloc (by simp; omega) _⟩

set_option maxHeartbeats 400000 in
theorem end_x (x y n m : Int) (w : World) (b1 : -1000000 ≤ x) (b2 : x ≤ 1000000) (b3 : -1000000 ≤ y) (b4 : y ≤ 1000000) (b5 : -1000000 ≤ n) (b6 : n ≤ 1000000) (b7 : -1000000 ≤ m) (b8 : m ≤ 1000000) :
    Calls Tryz.prog 42 #[.agg #[.int .i64 x, .int .i64 y, .int .i64 n, .int .i64 m]] w fun e w' => e = .returned (.agg #[.int .i64 (x + n), .int .i64 (y + m)]) ∧ w' = (w.alloc (.cells #[.int .i64 x, .int .i64 y, .int .i64 n, .int .i64 m] 51)).alloc (.cells #[.int .i64 (x + n), .int .i64 (y + m)] 49) := by
  go_enter Tryz.func42, Tryz.ntmps42
  go_wp2
  exact bodyPost_ret (v := .agg #[.int .i64 (x + n), .int .i64 (y + m)]) (by simp [results, Tryz.results42, go_sem]) rfl ⟨rfl, rfl⟩

set_option maxHeartbeats 400000 in
theorem end_any (x y n m : Int) (w : World) (b1 : -1000000 ≤ x) (b2 : x ≤ 1000000) (b3 : -1000000 ≤ y) (b4 : y ≤ 1000000) (b5 : -1000000 ≤ n) (b6 : n ≤ 1000000) (b7 : -1000000 ≤ m) (b8 : m ≤ 1000000) :
    Calls Tryz.prog 42 #[.agg #[.int .i64 x, .int .i64 y, .int .i64 n, .int .i64 m]] w fun e w' => e = .returned (.agg #[.int .i64 (x + n), .int .i64 (y + m)]) ∧ Below w.heap.size w w' := by
  go_enter Tryz.func42, Tryz.ntmps42
  go_wp2
  exact bodyPost_ret (v := .agg #[.int .i64 (x + n), .int .i64 (y + m)]) (by simp [results, Tryz.results42, go_sem]) rfl ⟨rfl, ((Below.refl _ _).alloc (Nat.le_refl _) _).alloc (by simp) _⟩

end Go.Proofs.YtfjbnejmcanamaaGreatDoor

/-
  Contracts of package geom: areas, places, what two have together.
-/
namespace Go.Proofs.YtfjbnejmcanamaaGreatDoor
open Go.RowKit

end Go.Proofs.YtfjbnejmcanamaaGreatDoor

/-
  What is left of a rectangle, as a list; a list of rectangles as cells.
-/
namespace Go.Proofs.YtfjbnejmcanamaaGreatDoor

def keepB (r : Rc) : Bool := !eqB r 0 0 0 0
def pcR (ax ay aw ah mx my mw mh : Int) : List Rc := [btw ax ay (ax + aw) my, btw ax my mx (my + mh), btw (mx + mw) my (ax + aw) (my + mh), btw ax (my + mh) (ax + aw) (ay + ah)]
def lesL (ax ay aw ah bx by' bw bh : Int) : List Rc :=
  if (mayB ax ay aw ah && (mayB bx by' bw bh && !emptyB ax ay aw ah)) = true then
    (if eqB (meetR ax ay aw ah bx by' bw bh) 0 0 0 0 = true then [⟨ax, ay, aw, ah⟩]
     else (pcR ax ay aw ah (meetR ax ay aw ah bx by' bw bh).x (meetR ax ay aw ah bx by' bw bh).y (meetR ax ay aw ah bx by' bw bh).w (meetR ax ay aw ah bx by' bw bh).h).filter keepB)
  else []
def lesE (ax ay aw ah bx by' bw bh : Int) : Int := if (mayB ax ay aw ah && mayB bx by' bw bh) = true then 0 else 5
def cel (r : Rc) : List Value := [.int .i64 r.x, .int .i64 r.y, .int .i64 r.w, .int .i64 r.h]
def flat : List Rc → List Value
  | [] => []
  | r :: l => cel r ++ flat l
theorem flat_length (l : List Rc) : (flat l).length = l.length * 4 := by
  induction l with
  | nil => rfl
  | cons r l ih => simp [flat, cel, ih]; omega
theorem flat_append (l k : List Rc) : flat (l ++ k) = flat l ++ flat k := by
  induction l with
  | nil => rfl
  | cons r l ih => simp [flat, ih]
theorem flat_one (r : Rc) : flat [r] = cel r := by simp [flat]

theorem meet_bd {ax ay aw ah bx by' bw bh : Int} (e : emptyB ax ay aw ah = false) :
    -16384 ≤ (meetR ax ay aw ah bx by' bw bh).x ∧ (meetR ax ay aw ah bx by' bw bh).x ≤ 16384 ∧ -16384 ≤ (meetR ax ay aw ah bx by' bw bh).y ∧ (meetR ax ay aw ah bx by' bw bh).y ≤ 16384 ∧
    0 ≤ (meetR ax ay aw ah bx by' bw bh).w ∧ (meetR ax ay aw ah bx by' bw bh).w ≤ 32768 ∧ 0 ≤ (meetR ax ay aw ah bx by' bw bh).h ∧ (meetR ax ay aw ah bx by' bw bh).h ≤ 32768 := by
  obtain ⟨a1, a2, a3, a4, a5, a6, a7, a8, a9, a10⟩ := bounds_of e
  unfold meetR
  cases h2 : emptyB bx by' bw bh
  · obtain ⟨b1, b2, b3, b4, b5, b6, b7, b8, b9, b10⟩ := bounds_of h2
    simp only [e, Bool.or_self, Bool.false_eq_true, if_false]
    unfold btw
    split
    · simp [zr]
    · simp only; omega
  · simp [zr]

end Go.Proofs.YtfjbnejmcanamaaGreatDoor

/-
  Lists of rectangles and of spans in memory; contracts of package region: a list's errors, the runs of a row.
-/
namespace Go.Proofs.YtfjbnejmcanamaaGreatDoor
open Go.RowKit
attribute [local go_sem] ite_max ite_min

/-- A rectangle in memory, from a place of a block on. -/
def RcAt (w : World) (g o : Nat) (r : Rc) : Prop := w.cell? ⟨g, o, none⟩ = some (.int .i64 r.x) ∧ w.cell? ⟨g, o + 1, none⟩ = some (.int .i64 r.y) ∧ w.cell? ⟨g, o + 2, none⟩ = some (.int .i64 r.w) ∧ w.cell? ⟨g, o + 3, none⟩ = some (.int .i64 r.h)
theorem RcAt.kept {w w' : World} {g o : Nat} {r : Rc} (h : RcAt w g o r) (k : ∀ j, w'.cell? ⟨g, j, none⟩ = w.cell? ⟨g, j, none⟩) : RcAt w' g o r := by
  unfold RcAt; rw [k, k, k, k]; exact h
/-- A slice that holds rectangles. -/
def LsR (w : World) (v : Value) (rs : List Rc) : Prop := ∃ oa cap, v = .slice oa rs.length cap ∧ rs.length ≤ cap ∧ (0 < rs.length → ∃ g o, oa = some ⟨g, o, none⟩ ∧ g < w.heap.size ∧ ∀ i (h : i < rs.length), RcAt w g (o + i * 4) rs[i])
theorem LsR.below {w w' : World} {v : Value} {rs : List Rc} (h : LsR w v rs) (hb : Below w.heap.size w w') : LsR w' v rs := by
  obtain ⟨oa, cap, e, hc, hg⟩ := h
  refine ⟨oa, cap, e, hc, fun hp => ?_⟩
  obtain ⟨g, o, e1, g1, g2⟩ := hg hp
  exact ⟨g, o, e1, Nat.lt_of_lt_of_le g1 hb.size, fun i hi => (g2 i hi).kept fun j => hb.cell (p := ⟨g, j, none⟩) g1⟩
theorem flat_at (l : List Rc) (k : Nat) (h : k < l.length) : (flat l)[k * 4]? = some (.int .i64 l[k].x) ∧ (flat l)[k * 4 + 1]? = some (.int .i64 l[k].y) ∧ (flat l)[k * 4 + 2]? = some (.int .i64 l[k].w) ∧ (flat l)[k * 4 + 3]? = some (.int .i64 l[k].h) := by
  induction l generalizing k with
  | nil => simp at h
  | cons r l ih =>
    cases k with
    | zero => simp [flat, cel]
    | succ k =>
      have e : ∀ j, (flat (r :: l))[(k + 1) * 4 + j]? = (flat l)[k * 4 + j]? := fun j => by
        show (cel r ++ flat l)[(k + 1) * 4 + j]? = _
        rw [List.getElem?_append_right (by simp [cel]; omega)]
        congr 1
        simp [cel]
        omega
      have h' : k < l.length := by simpa using h
      obtain ⟨i0, i1, i2, i3⟩ := ih k h'
      have e0 := e 0
      rw [Nat.add_zero, Nat.add_zero] at e0
      exact ⟨e0.trans i0, (e 1).trans i1, (e 2).trans i2, (e 3).trans i3⟩
theorem flat_app (l m : List Rc) : flat (l ++ m) = flat l ++ flat m := by
  induction l with
  | nil => rfl
  | cons r l ih => show cel r ++ flat (l ++ m) = (cel r ++ flat l) ++ flat m; rw [ih, List.append_assoc]
theorem flat_len (l : List Rc) : (flat l).length = l.length * 4 := by
  induction l with
  | nil => rfl
  | cons r l ih => show (cel r ++ flat l).length = _; rw [List.length_append, ih]; simp [cel]; omega

/-- Spans, cell by cell. -/
def flatS : List Sp → List Value
  | [] => []
  | s :: t => .int .i64 s.1 :: .int .i64 s.2 :: flatS t
theorem flatS_app (l m : List Sp) : flatS (l ++ m) = flatS l ++ flatS m := by
  induction l with
  | nil => rfl
  | cons s l ih => simp [flatS, ih]
theorem flatS_len (l : List Sp) : (flatS l).length = l.length * 2 := by
  induction l with
  | nil => rfl
  | cons s l ih => simp [flatS, ih]; omega
theorem flatS_at (l : List Sp) (k : Nat) (h : k < l.length) : (flatS l)[k * 2]? = some (.int .i64 l[k].1) ∧ (flatS l)[k * 2 + 1]? = some (.int .i64 l[k].2) := by
  induction l generalizing k with
  | nil => simp at h
  | cons s l ih =>
    cases k with
    | zero => simp [flatS]
    | succ k =>
      have h' : k < l.length := by simpa using h
      obtain ⟨i0, i1⟩ := ih k h'
      rw [show (k + 1) * 2 = k * 2 + 1 + 1 by omega, show k * 2 + 1 + 1 + 1 = (k * 2 + 1) + 1 + 1 by omega]
      simpa [flatS] using ⟨i0, i1⟩

/-- A block's cells written out. -/
def Bk (W : World) (b : Nat) (vs : Array Value) (t : TypeId) : Prop := W.heap[b]? = some (.cells vs t)
theorem Bk.lt {W : World} {b : Nat} {vs : Array Value} {t : TypeId} (h : Bk W b vs t) : b < W.heap.size := (Array.getElem?_eq_some_iff.1 h).1
theorem Bk.cell {W : World} {b : Nat} {vs : Array Value} {t : TypeId} (h : Bk W b vs t) (o : Nat) : W.cell? ⟨b, o, none⟩ = vs[o]? := by
  simp [World.cell?, show W.heap[b]? = _ from h]
theorem Bk.frozen {W : World} {b : Nat} {vs : Array Value} {t : TypeId} (h : Bk W b vs t) (o : Nat) : W.frozen? ⟨b, o, none⟩ = false := by
  simp [World.frozen?, show W.heap[b]? = _ from h]
theorem Bk.below {W W' : World} {b : Nat} {vs : Array Value} {t : TypeId} (h : Bk W b vs t) (hb : Below W.heap.size W W') : Bk W' b vs t := (hb.block b h.lt).trans h
theorem Bk.new (W : World) (vs : Array Value) (t : TypeId) : Bk (W.alloc (.cells vs t)) W.heap.size vs t := by
  show (W.heap.push (.cells vs t))[W.heap.size]? = _
  exact Array.getElem?_push_size
theorem Bk.put {W : World} {b : Nat} {vs : Array Value} {t : TypeId} (h : Bk W b vs t) (o : Nat) (v : Value) : Bk (W.setCell ⟨b, o, none⟩ v) b (vs.setIfInBounds o v) t := heap_setCell_same W b o vs t v h
theorem Bk.other {W : World} {b : Nat} {vs : Array Value} {t : TypeId} (h : Bk W b vs t) (p : Addr) (v : Value) (hp : p.block ≠ b) : Bk (W.setCell p v) b vs t :=
  (Below.heap_setCell _ _ _ b (fun e => hp e.symm)).trans h
theorem Bk.at2 {W : World} {b : Nat} {a0 a1 : Value} {t : TypeId} (h : Bk W b #[a0, a1] t) : W.cell? ⟨b, 0, none⟩ = some a0 ∧ W.cell? ⟨b, 1, none⟩ = some a1 := ⟨by rw [h.cell]; rfl, by rw [h.cell]; rfl⟩
/-- An append onto a row that lies elsewhere. -/
theorem Bk.grown {W W' : World} {b : Nat} {vs : Array Value} {t : TypeId} (h : Bk W b vs t) {row : Option Nat} (hg : W.grownBy W' row) (hb : row ≠ some b) : Bk W' b vs t := (hg.block b h.lt (fun e => hb e.symm)).trans h

theorem own_cell {w : World} {base : Nat} {e : TypeId} {size n g cap : Nat} {xs : List Value} (h : w.ownsRow base e size (.slice (some ⟨g, 0, none⟩) n cap) n xs) (j : Nat) (hj : j < n * size) : w.cell? ⟨g, j, none⟩ = xs[j]? := h.cellAt j hj
theorem own_frozen {w : World} {base : Nat} {e : TypeId} {size n g cap : Nat} {xs : List Value} (h : w.ownsRow base e size (.slice (some ⟨g, 0, none⟩) n cap) n xs) (j : Nat) : w.frozen? ⟨g, j, none⟩ = false := by
  obtain ⟨_, ⟨h, _⟩ | ⟨g', cap', cur, h, _, hc, _⟩⟩ := h
  · cases h
  · injection h with h1 _ _
    injection h1 with h1
    injection h1 with h1 _ _
    subst h1
    simp [World.frozen?, hc]
/-- A store into a row of one's own. -/
theorem own_set {w : World} {base : Nat} {e : TypeId} {size n g cap : Nat} {xs : List Value} (h : w.ownsRow base e size (.slice (some ⟨g, 0, none⟩) n cap) n xs) (j : Nat) (v : Value) :
    (w.setCell ⟨g, j, none⟩ v).ownsRow base e size (.slice (some ⟨g, 0, none⟩) n cap) n (xs.set j v) := by
  obtain ⟨hl, ⟨h, _⟩ | ⟨g', cap', cur, h, hb, hc, h1, h2, h3, h4⟩⟩ := h
  · cases h
  · injection h with e1 _ e3
    injection e1 with e1
    injection e1 with e1 _ _
    subst e1 e3
    refine ⟨by rw [List.length_set]; exact hl, .inr ⟨g, cap, cur.setIfInBounds j v, rfl, hb, ?_, h1, h2, by simpa using h3, ?_⟩⟩
    · exact heap_setCell_same w g j cur e v hc
    · rw [Array.toList_setIfInBounds, List.take_set, h4]
theorem runA_snoc (s : Sp) (a b : Int) : ∀ l : List Sp, runA (l ++ [s]) a b = if a ≤ s.2 then l ++ [(s.1, max s.2 b)] else l ++ [s, (a, b)]
  | [] => by simp [runA]
  | [q] => by
    show runA (q :: [s]) a b = _
    rw [runA]
    · rw [runA]; split <;> rfl
    · intro h; cases h
  | q :: u :: t => by
    have ih := runA_snoc s a b (u :: t)
    show runA (q :: (u :: t ++ [s])) a b = _
    rw [runA]
    · rw [ih]; split <;> rfl
    · intro h; cases h

/-- A list's errors. -/
def lisE (rs : List Rc) : Int := if 1024 < rs.length then 4 else if rs.all (fun r => mayB r.x r.y r.w r.h) = true then 0 else 5

end Go.Proofs.YtfjbnejmcanamaaGreatDoor

/-
  A region that draws its order, whose own operations only read and whose callees leave what was there: one walk. Contracts of the document's answer: its leaves.
-/
namespace Go.Proofs.YtfjbnejmcanamaaGreatDoor
open Go.RowKit

/-- A world that has grown out of W: below W's size nothing has turned. -/
structure Gw (W : World) where
  wd : World
  below : Below W.heap.size W wd

theorem wp_region_gw {P : Program} {id : Nat} {Q : Exit → Act → World → Prop} {a : Act} {w : World} {l : List Oper} (hm : P.follows .mixedOrders = true) (hB : Region.lexB .any l.toArray = true)
    (h : wpQuiet P l.toArray (fun w' => ∃ t : Gw w, w' = t.wd) (fun a' => ∀ w', (∃ t : Gw w, w' = t.wd) → Q .normal a' w') l a) : (Code.region id l.toArray true).wp P Q a w :=
  wp_region_quiet (C := fun w' => ∃ t : Gw w, w' = t.wd) hm hB ⟨⟨w.drew, (Below.refl _ _).drew⟩, rfl⟩ (by simpa using h)
theorem gw_call {P : Program} {f : FuncId} {args : Array Value} {W : World} {v : Value} {t : Gw W}
    (h : Calls P f args t.wd fun e w' => e = .returned v ∧ Below t.wd.heap.size t.wd w') : Calls P f args t.wd fun e w'' => e = .returned v ∧ ∃ t' : Gw W, w'' = t'.wd :=
  h.mono fun _ w'' ⟨he, hb⟩ => ⟨he, ⟨⟨w'', t.below.trans (hb.mono t.below.size)⟩, rfl⟩⟩
theorem gw_same {P : Program} {f : FuncId} {args : Array Value} {W : World} {v : Value} {t : Gw W}
    (h : Calls P f args t.wd fun e w' => e = .returned v ∧ w' = t.wd) : Calls P f args t.wd fun e w'' => e = .returned v ∧ ∃ t' : Gw W, w'' = t'.wd :=
  h.mono fun _ _ ⟨he, hw⟩ => ⟨he, ⟨t, hw⟩⟩
theorem gw_ne {B : Nat} {w W : World} (_h : Below B w W) : Nonempty (Gw W) := ⟨⟨W, Below.refl _ _⟩⟩
theorem gw4 {W : World} {b : Nat} {x y n m : Int} (h : At4 W b x y n m) (t : Gw W) : At4 t.wd b x y n m := h.below t.below
theorem gw2 {W : World} {b : Nat} {x y : Int} (h : At2 W b x y) (t : Gw W) : At2 t.wd b x y := h.below t.below

set_option maxHeartbeats 400000 in
theorem rwithin_any (n : Int) (w : World) :
    Calls Tryz.prog 79 #[.int .i64 n] w fun e w' => e = .returned (.bool (witB n (-16384) 16384)) ∧ w' = w := by
  by_cases c1 : -16384 ≤ n
  · go_enter Tryz.func79, Tryz.ntmps79
    go_wp2
    go_ret
    exact ⟨by simp [witB, c1], rfl⟩
  · go_enter Tryz.func79, Tryz.ntmps79
    go_wp2
    go_ret
    exact ⟨by simp [witB]; omega, rfl⟩

set_option maxHeartbeats 400000 in
theorem rside_any (n : Int) (w : World) :
    Calls Tryz.prog 80 #[.int .i64 n] w fun e w' => e = .returned (.bool (witB n 0 32768)) ∧ w' = w := by
  by_cases c1 : 0 ≤ n
  · go_enter Tryz.func80, Tryz.ntmps80
    go_wp2
    go_ret
    exact ⟨by simp [witB, c1], rfl⟩
  · go_enter Tryz.func80, Tryz.ntmps80
    go_wp2
    go_ret
    exact ⟨by simp [witB]; omega, rfl⟩

set_option maxHeartbeats 400000 in
theorem rspan_any (p n : Int) (w : World) :
    Calls Tryz.prog 52 #[.int .i64 p, .int .i64 n] w fun e w' => e = .returned (.bool (spanB p n)) ∧ w' = w := by
  cases h1 : witB p (-16384) 16384
  · rw [span_no1 p n h1]
    go_enter Tryz.func52, Tryz.ntmps52
    go_wp2_with (go_at_call 79; refine (rwithin_any _ _).mono ?_; rintro e w' ⟨rfl, rfl⟩)
    go_ret
    exact ⟨rfl, rfl⟩
  · cases h2 : witB n 0 32768
    · rw [span_no2 p n h1 h2]
      go_enter Tryz.func52, Tryz.ntmps52
      go_wp2_with (first | (go_at_call 79; refine (rwithin_any _ _).mono ?_; rintro e w' ⟨rfl, rfl⟩) | (go_at_call 80; refine (rside_any _ _).mono ?_; rintro e w' ⟨rfl, rfl⟩))
      go_ret
      exact ⟨rfl, rfl⟩
    · rw [span_ref p n h1 h2]
      have b1 := (wit_iff.1 h1).1
      have b2 := (wit_iff.1 h1).2
      have b3 := (wit_iff.1 h2).1
      have b4 := (wit_iff.1 h2).2
      go_enter Tryz.func52, Tryz.ntmps52
      go_wp2_with (first | (go_at_call 79; refine (rwithin_any _ _).mono ?_; rintro e w' ⟨rfl, rfl⟩) | (go_at_call 80; refine (rside_any _ _).mono ?_; rintro e w' ⟨rfl, rfl⟩))
      go_ret
      exact ⟨rfl, rfl⟩

set_option maxHeartbeats 400000 in
theorem rmay_any (x y n m : Int) (w : World) :
    Calls Tryz.prog 31 #[.agg #[.int .i64 x, .int .i64 y, .int .i64 n, .int .i64 m]] w fun e w' => e = .returned (.bool (mayB x y n m)) ∧ Below w.heap.size w w' := by
  cases h1 : spanB x n
  · go_enter Tryz.func31, Tryz.ntmps31
    go_wp2_with (go_at_call 52; refine (rspan_any _ _ _).mono ?_; rintro e w' ⟨rfl, rfl⟩)
    go_ret
    exact ⟨by simp [mayB, h1], (Below.refl _ _).alloc (Nat.le_refl _) _⟩
  · go_enter Tryz.func31, Tryz.ntmps31
    go_wp2_with (go_at_call 52; refine (rspan_any _ _ _).mono ?_; rintro e w' ⟨rfl, rfl⟩)
    go_ret
    exact ⟨by simp [mayB, h1], (Below.refl _ _).alloc (Nat.le_refl _) _⟩

end Go.Proofs.YtfjbnejmcanamaaGreatDoor
