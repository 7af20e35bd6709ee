/-
  Texts of this claim, one behind the other: what each is about stands ahead of it.
-/
import Derived.Test.YtdmhcmngajmghaaGreatDoorK0
import Derived.Test.YtdmhcmngajmghaaGreatDoorK1
import Derived.Test.YtdmhcmngajmghaaGreatDoorK2
import Derived.Laws.AppendOwnNone
import Derived.Deep.RegionWith
import Derived.Deep.DeepCutAuto
/-
  Drawing lists in plain words: strokes that may be, clips, where strokes show, what nobody sees, lists cut to a region.
-/
namespace Go.Proofs.YtdmhcmngajmghaaGreatDoor

/-- A stroke. -/
structure St where
  k : Int
  r : Rc
  c : Co
  b : Co
  t : ByteArray
  n : Int

def zEm (r : Rc) : Bool := emptyB r.x r.y r.w r.h
def zMe (a b : Rc) : Rc := meetR a.x a.y a.w a.h b.x b.y b.w b.h
def zHa (r : Rc) (px py : Int) : Bool := hasB r.x r.y r.w r.h px py
def zIn (a b : Rc) : Bool := inB a.x a.y a.w a.h b.x b.y b.w b.h
def zOv (a b : Rc) : Bool := overB a.x a.y a.w a.h b.x b.y b.w b.h
def zMa (r : Rc) : Bool := mayB r.x r.y r.w r.h
def zZr (r : Rc) : Bool := eqB r 0 0 0 0
def coE (c : Co) : Bool := (c.r == 0) && ((c.g == 0) && ((c.b == 0) && (c.a == 0)))

/-- What is wrong with a stroke. -/
def wroK (s : St) : Bool := (decide (s.k < 1) || decide (5 < s.k)) || ((decide (s.n < 0) || decide (1048576 < s.n)) || decide (65536 < s.t.size))
def wroF (s : St) : Bool := (!(s.k == 3) && (!(s.t.size == 0) || !coE s.b)) || (((s.k == 4 || s.k == 5) && !coE s.c) || (s.k == 5 && !zZr s.r))
def oneE (s : St) : Int := if (wroK s || wroF s) = true then 2 else if zMa s.r = true then 0 else 5
theorem oneE_cases (s : St) : oneE s = 0 ∨ oneE s = 2 ∨ oneE s = 5 := by
  unfold oneE
  split
  · exact .inr (.inl rfl)
  · split
    · exact .inl rfl
    · exact .inr (.inr rfl)
theorem oneE_zero {s : St} (h : oneE s = 0) : zMa s.r = true ∧ (s.k = 1 ∨ s.k = 2 ∨ s.k = 3 ∨ s.k = 4 ∨ s.k = 5) ∧ wroF s = false := by
  unfold oneE at h
  split at h
  · cases h
  · next h1 =>
    split at h
    · next h2 =>
      refine ⟨h2, ?_, ?_⟩
      · have h3 : wroK s = false := by
          cases e : wroK s
          · rfl
          · rw [e] at h1; simp at h1
        unfold wroK at h3
        simp at h3
        omega
      · cases e : wroF s
        · rfl
        · rw [e] at h1; simp at h1
    · cases h

/-- How many clips are open. -/
def opn (n : Nat) (s : St) : Nat := if s.k = 4 then n + 1 else if s.k = 5 then n - 1 else n
def clpE : Nat → List St → Int
  | n, [] => if 0 < n then 130 else 0
  | n, s :: l => if oneE s ≠ 0 then oneE s else if s.k = 5 ∧ n = 0 then 130 else clpE (opn n s) l
/-- What is wrong with a list. -/
def chkS (l : List St) : Int := if 16384 < l.length then 4 else clpE 0 l
theorem clpE_cons {n : Nat} {s : St} {l : List St} (h : clpE n (s :: l) = 0) : oneE s = 0 ∧ ¬ (s.k = 5 ∧ n = 0) ∧ clpE (opn n s) l = 0 := by
  unfold clpE at h
  split at h
  · next h1 => exact absurd h h1
  · next h1 =>
    split at h
    · cases h
    · next h2 => exact ⟨Decidable.not_not.1 h1, h2, h⟩
theorem clpE_mk {n : Nat} {s : St} {l : List St} (h1 : oneE s = 0) (h2 : ¬ (s.k = 5 ∧ n = 0)) (h3 : clpE (opn n s) l = 0) : clpE n (s :: l) = 0 := by
  unfold clpE
  rw [if_neg (by simp [h1]), if_neg h2, h3]
theorem chkS_zero {l : List St} (h : chkS l = 0) : l.length ≤ 16384 ∧ clpE 0 l = 0 := by
  unfold chkS at h
  split at h
  · cases h
  · next h1 => exact ⟨by omega, h⟩

/-- The rectangle in which a stroke shows, below clips (the innermost first). -/
def topR (cs : List Rc) (r : Rc) : Rc :=
  match cs with
  | [] => r
  | c :: _ => zMe r c
def shR (cs : List Rc) (s : St) : Rc := if zEm (topR cs s.r) = true then zr else topR cs s.r
def nxC (cs : List Rc) (s : St) : List Rc := if s.k = 4 then shR cs s :: cs else if s.k = 5 then cs.tail else cs
/-- Strokes, each with the rectangle in which it shows. -/
def ann : List Rc → List St → List (St × Rc)
  | _, [] => []
  | cs, s :: l => (s, shR cs s) :: ann (nxC cs s) l
def endC : List Rc → List St → List Rc
  | cs, [] => cs
  | cs, s :: l => endC (nxC cs s) l
theorem ann_app : ∀ (a b : List St) (cs : List Rc), ann cs (a ++ b) = ann cs a ++ ann (endC cs a) b
  | [], _, _ => rfl
  | s :: a, b, cs => by show _ :: ann (nxC cs s) (a ++ b) = _; rw [ann_app a b]; rfl
theorem endC_app : ∀ (a b : List St) (cs : List Rc), endC cs (a ++ b) = endC (endC cs a) b
  | [], _, _ => rfl
  | s :: a, b, cs => endC_app a b (nxC cs s)
theorem ann_len : ∀ (l : List St) (cs : List Rc), (ann cs l).length = l.length
  | [], _ => rfl
  | s :: l, cs => by show (ann (nxC cs s) l).length + 1 = _; rw [ann_len l]; rfl
theorem ann_fst : ∀ (l : List St) (cs : List Rc), (ann cs l).map Prod.fst = l
  | [], _ => rfl
  | s :: l, cs => by show s :: (ann (nxC cs s) l).map Prod.fst = _; rw [ann_fst l]
theorem nxC_len (cs : List Rc) (s : St) : (nxC cs s).length = opn cs.length s := by
  unfold nxC opn
  split
  · rfl
  · split
    · exact List.length_tail
    · rfl

def drw (s : St) : Bool := decide (s.k < 4)
/-- What is flat of a list. -/
def flaL (l : List St) : List (St × Rc) := (ann [] l).filter fun p => drw p.1
def sidR (q : Rc) : List Rc := [btw q.x q.y (q.x + q.w) (q.y + 1), btw q.x q.y (q.x + 1) (q.y + q.h), btw (q.x + q.w - 1) q.y (q.x + q.w) (q.y + q.h), btw q.x (q.y + q.h - 1) (q.x + q.w) (q.y + q.h)]
def noP (s : St) (r : Rc) : Bool := zEm r || ((s.k == 3 && s.t.size == 0) || ((!(s.k == 3) && s.c.a == 0) || !drw s))
/-- The places at which a stroke shows. -/
def plc (s : St) (r : Rc) : List Rc := if noP s r = true then [] else if s.k = 2 then ((sidR s.r).map (fun q => zMe q r)).filter (fun q => !zEm q) else [r]
def plA (l : List (St × Rc)) : List Rc := l.flatMap fun p => plc p.1 p.2
def opq (s : St) : Bool := s.k == 1 && s.c.a == 255
def hidB (p : St × Rc) (t : List (St × Rc)) : Bool := drw p.1 && ((plc p.1 p.2).isEmpty || t.any fun q => opq q.1 && (plc p.1 p.2).all fun a => zIn a q.2)
def kepN : List (St × Rc) → List (St × Rc)
  | [] => []
  | p :: t => if hidB p t = true then kepN t else p :: kepN t
/-- Without idle pairs. -/
def bz {α : Type} (kd : α → Int) : List α → List α → List α
  | o, [] => o.reverse
  | [], s :: l => bz kd [s] l
  | c :: o, s :: l => if kd s = 5 ∧ kd c = 4 then bz kd o l else bz kd (s :: c :: o) l
def busy (l : List St) : List St := bz St.k [] l
def busA (l : List (St × Rc)) : List (St × Rc) := bz (fun p => p.1.k) [] l
def norL (l : List St) : List St := busy ((kepN (ann [] l)).map Prod.fst)
def cliS (q : Rc) : St := ⟨4, q, ⟨0, 0, 0, 0⟩, ⟨0, 0, 0, 0⟩, ⟨#[]⟩, 0⟩
def opeS : St := ⟨5, zr, ⟨0, 0, 0, 0⟩, ⟨0, 0, 0, 0⟩, ⟨#[]⟩, 0⟩
def witP (q : Rc) (p : St × Rc) : Bool := !drw p.1 || (plc p.1 p.2).any fun a => zOv a q
def grpL (A : List (St × Rc)) (q : Rc) : List St := busy (cliS q :: ((A.filter (witP q)).map Prod.fst ++ [opeS]))
def witA (l : List St) (F : List Rc) : List St := F.flatMap (grpL (ann [] l))

/-- Idle pairs left out, one by one. -/
inductive Idl {α : Type} (kd : α → Int) : List α → List α → Prop
  | refl (l : List α) : Idl kd l l
  | step (a b m : List α) (c o : α) : kd c = 4 → kd o = 5 → Idl kd (a ++ b) m → Idl kd (a ++ c :: o :: b) m
theorem bz_idl {α : Type} (kd : α → Int) : ∀ (l o : List α), Idl kd (o.reverse ++ l) (bz kd o l)
  | [], o => by
    cases o with
    | nil => exact .refl _
    | cons c o => unfold bz; rw [List.append_nil]; exact .refl _
  | s :: l, [] => by
    unfold bz
    exact bz_idl kd l [s]
  | s :: l, c :: o => by
    unfold bz
    split
    · next h =>
      rw [List.reverse_cons, List.append_assoc]
      exact .step _ _ _ c s h.2 h.1 (bz_idl kd l o)
    · have := bz_idl kd l (s :: c :: o)
      rwa [List.reverse_cons, List.append_assoc] at this
theorem bz_pair {α : Type} (kd : α → Int) {c s : α} (hc : kd c = 4) (hs : kd s = 5) (b : List α) : ∀ (a o : List α), bz kd o (a ++ c :: s :: b) = bz kd o (a ++ b)
  | [], [] => by
    show bz kd [] (c :: s :: b) = bz kd [] b
    rw [bz, bz, if_pos ⟨hs, hc⟩]
  | [], d :: o => by
    show bz kd (d :: o) (c :: s :: b) = bz kd (d :: o) b
    rw [bz, if_neg (by rw [hc]; intro h; cases h.1), bz, if_pos ⟨hs, hc⟩]
  | x :: a, [] => by
    show bz kd [] (x :: (a ++ c :: s :: b)) = bz kd [] (x :: (a ++ b))
    rw [bz, bz, bz_pair kd hc hs b a]
  | x :: a, d :: o => by
    show bz kd (d :: o) (x :: (a ++ c :: s :: b)) = bz kd (d :: o) (x :: (a ++ b))
    rw [bz, bz, bz_pair kd hc hs b a, bz_pair kd hc hs b a]
theorem idl_bz {α : Type} {kd : α → Int} {l m : List α} (h : Idl kd l m) : bz kd [] l = bz kd [] m := by
  induction h with
  | refl => rfl
  | step a b m c o hc ho _ ih => rw [bz_pair kd hc ho b a, ih]
/-- No idle pair. -/
def nid {α : Type} (kd : α → Int) : List α → Prop
  | [] => True
  | [_] => True
  | a :: b :: l => ¬ (kd a = 4 ∧ kd b = 5) ∧ nid kd (b :: l)
def nidR {α : Type} (kd : α → Int) : List α → Prop
  | [] => True
  | [_] => True
  | a :: b :: l => ¬ (kd a = 5 ∧ kd b = 4) ∧ nidR kd (b :: l)
theorem nid_snoc {α : Type} (kd : α → Int) (x : α) : ∀ (l : List α) (y : α), nid kd (l ++ [y]) → ¬ (kd y = 4 ∧ kd x = 5) → nid kd (l ++ [y, x])
  | [], _, _, h => ⟨h, trivial⟩
  | [_], _, h1, h2 => ⟨h1.1, h2, trivial⟩
  | _ :: b :: l, y, h1, h2 => ⟨h1.1, nid_snoc kd x (b :: l) y h1.2 h2⟩
theorem nidR_rev {α : Type} (kd : α → Int) : ∀ l : List α, nidR kd l → nid kd l.reverse
  | [], _ => trivial
  | [_], _ => trivial
  | a :: b :: l, h => by
    have ih := nidR_rev kd (b :: l) h.2
    rw [List.reverse_cons] at ih
    rw [List.reverse_cons, List.reverse_cons, List.append_assoc]
    exact nid_snoc kd a l.reverse b ih fun e => h.1 ⟨e.2, e.1⟩
theorem nidR_tail {α : Type} {kd : α → Int} {a : α} : ∀ {l : List α}, nidR kd (a :: l) → nidR kd l
  | [], _ => trivial
  | _ :: _, h => h.2
theorem bz_nid {α : Type} (kd : α → Int) : ∀ (l o : List α), nidR kd o → nid kd (bz kd o l)
  | [], o, h => by
    have := nidR_rev kd o h
    cases o <;> exact this
  | s :: l, [], _ => by
    unfold bz
    exact bz_nid kd l [s] trivial
  | s :: l, c :: o, h => by
    unfold bz
    split
    · exact bz_nid kd l o (nidR_tail h)
    · next h1 => exact bz_nid kd l (s :: c :: o) ⟨h1, h⟩
theorem nid_app {α : Type} {kd : α → Int} {c s : α} {b : List α} (hc : kd c = 4) (hs : kd s = 5) : ∀ (a : List α), ¬ nid kd (a ++ c :: s :: b)
  | [], h => h.1 ⟨hc, hs⟩
  | [_], h => h.2.1 ⟨hc, hs⟩
  | _ :: y :: a, h => nid_app hc hs (y :: a) h.2
theorem idl_nid {α : Type} {kd : α → Int} {l m : List α} (h : Idl kd l m) (hn : nid kd l) : m = l := by
  cases h with
  | refl => rfl
  | step a b _ c o hc ho _ => exact absurd hn (nid_app hc ho a)
/-- A list without idle pairs is what is left of itself. -/
theorem bz_same {α : Type} (kd : α → Int) {l : List α} (h : nid kd l) : bz kd [] l = l := idl_nid (bz_idl kd l []) h
/-- Whatever pairs are left out, in whatever order: where none is left, it is this. -/
theorem idl_unique {α : Type} {kd : α → Int} {l m : List α} (h : Idl kd l m) (hn : nid kd m) : m = bz kd [] l := by
  rw [idl_bz h, bz_same kd hn]
theorem bz_map {α β : Type} (kd : α → Int) (ke : β → Int) (f : α → β) (hf : ∀ x, ke (f x) = kd x) : ∀ (l o : List α), (bz kd o l).map f = bz ke (o.map f) (l.map f)
  | [], o => by cases o <;> simp [bz]
  | s :: l, [] => by
    show (bz kd [s] l).map f = bz ke [f s] (l.map f)
    exact bz_map kd ke f hf l [s]
  | s :: l, c :: o => by
    show (bz kd (c :: o) (s :: l)).map f = bz ke (f c :: o.map f) (f s :: l.map f)
    rw [bz, bz, hf, hf]
    split
    · exact bz_map kd ke f hf l o
    · exact bz_map kd ke f hf l (s :: c :: o)
theorem idl_sub {α : Type} {kd : α → Int} {l m : List α} (h : Idl kd l m) : m.Sublist l := by
  induction h with
  | refl l => exact List.Sublist.refl l
  | step a b m c o _ _ _ ih =>
    refine ih.trans ?_
    exact List.Sublist.append (List.Sublist.refl a) (((List.Sublist.refl b).cons o).cons c)
theorem busy_len (l : List St) : (busy l).length ≤ l.length := (idl_sub (bz_idl St.k l [])).length_le

/-- A clip that is closed at once changes nothing behind it. -/
theorem nxC_pair (cs : List Rc) {c o : St} (hc : c.k = 4) (ho : o.k = 5) : nxC (nxC cs c) o = cs := by
  unfold nxC
  rw [if_pos hc, if_neg (by omega), if_pos ho]
  rfl
theorem endC_pair (cs : List Rc) (a b : List St) {c o : St} (hc : c.k = 4) (ho : o.k = 5) : endC cs (a ++ c :: o :: b) = endC cs (a ++ b) := by
  rw [endC_app, endC_app]
  show endC (nxC (nxC (endC cs a) c) o) b = _
  rw [nxC_pair _ hc ho]
theorem ann_pair (cs : List Rc) (a b : List St) {c o : St} (hc : c.k = 4) (ho : o.k = 5) : ann cs (a ++ c :: o :: b) = ann cs a ++ (c, shR (endC cs a) c) :: (o, shR (nxC (endC cs a) c) o) :: ann (endC cs a) b := by
  rw [ann_app]
  show _ ++ _ :: _ :: ann (nxC (nxC (endC cs a) c) o) b = _
  rw [nxC_pair _ hc ho]
theorem clpE_pair {c o : St} (hc : c.k = 4) (ho : o.k = 5) (b : List St) : ∀ (a : List St) (n : Nat), clpE n (a ++ c :: o :: b) = 0 → clpE n (a ++ b) = 0
  | [], n, h => by
    obtain ⟨_, _, h⟩ := clpE_cons (show clpE n (c :: o :: b) = 0 from h)
    obtain ⟨_, _, h⟩ := clpE_cons h
    have e : opn (opn n c) o = n := by
      unfold opn
      rw [if_pos hc, if_neg (by omega), if_pos ho]
      rfl
    rw [e] at h
    exact h
  | s :: a, n, h => by
    obtain ⟨h1, h2, h3⟩ := clpE_cons (show clpE n (s :: (a ++ c :: o :: b)) = 0 from h)
    exact clpE_mk h1 h2 (clpE_pair hc ho b a _ h3)
theorem idl_clp {l m : List St} (h : Idl St.k l m) (n : Nat) (hc : clpE n l = 0) : clpE n m = 0 := by
  induction h with
  | refl => exact hc
  | step a b m c o h1 h2 _ ih => exact ih (clpE_pair h1 h2 b a n hc)
/-- Left out of a list, pairs are left out of it with its rectangles. -/
theorem idl_ann (cs : List Rc) {l m : List St} (h : Idl St.k l m) : Idl (fun p : St × Rc => p.1.k) (ann cs l) (ann cs m) := by
  induction h with
  | refl => exact .refl _
  | step a b m c o h1 h2 _ ih =>
    rw [ann_pair cs a b h1 h2]
    rw [ann_app] at ih
    exact .step _ _ _ (c, _) (o, _) h1 h2 ih
theorem ann_busy (cs : List Rc) (l : List St) : ann cs (busy l) = busA (ann cs l) := by
  have h := idl_ann cs (bz_idl St.k l [])
  refine idl_unique h ?_
  have h1 := bz_nid St.k l [] trivial
  have h2 : ∀ (x : List St) (cs : List Rc), nid St.k x → nid (fun p : St × Rc => p.1.k) (ann cs x) := by
    intro x
    induction x with
    | nil => intro _ _; trivial
    | cons s x ih =>
      intro cs h
      cases x with
      | nil => trivial
      | cons q x => exact ⟨h.1, ih _ h.2⟩
  exact h2 _ cs h1

/-- Without some strokes that draw. -/
inductive Dro : List (St × Rc) → List (St × Rc) → Prop
  | nil : Dro [] []
  | keep (p : St × Rc) {l m : List (St × Rc)} : Dro l m → Dro (p :: l) (p :: m)
  | drop (p : St × Rc) {l m : List (St × Rc)} : drw p.1 = true → Dro l m → Dro (p :: l) m
theorem nxC_drw (cs : List Rc) {s : St} (h : drw s = true) : nxC cs s = cs := by
  unfold drw at h
  have h := of_decide_eq_true h
  unfold nxC
  rw [if_neg (by omega), if_neg (by omega)]
theorem opn_drw (n : Nat) {s : St} (h : drw s = true) : opn n s = n := by
  unfold drw at h
  have h := of_decide_eq_true h
  unfold opn
  rw [if_neg (by omega), if_neg (by omega)]
theorem dro_ann : ∀ (l : List St) (cs : List Rc) {m : List (St × Rc)}, Dro (ann cs l) m → ann cs (m.map Prod.fst) = m
  | [], _, _, h => by cases h; rfl
  | s :: l, cs, m, h => by
    change Dro ((s, shR cs s) :: ann (nxC cs s) l) m at h
    cases h with
    | keep p h' => show (s, shR cs s) :: ann (nxC cs s) (List.map Prod.fst _) = _; rw [dro_ann l _ h']
    | drop p hd h' =>
      rw [nxC_drw cs hd] at h'
      exact dro_ann l _ h'
theorem dro_clp : ∀ (l : List St) (cs : List Rc) (n : Nat) {m : List (St × Rc)}, Dro (ann cs l) m → clpE n l = 0 → clpE n (m.map Prod.fst) = 0
  | [], _, _, _, h, hc => by cases h; exact hc
  | s :: l, cs, n, m, h, hc => by
    obtain ⟨h1, h2, h3⟩ := clpE_cons hc
    change Dro ((s, shR cs s) :: ann (nxC cs s) l) m at h
    cases h with
    | keep p h' => exact clpE_mk h1 h2 (dro_clp l _ _ h' h3)
    | drop p hd h' =>
      rw [opn_drw n hd] at h3
      exact dro_clp l _ _ h' h3
theorem dro_endC : ∀ (l : List St) (cs : List Rc) {m : List (St × Rc)}, Dro (ann cs l) m → endC cs (m.map Prod.fst) = endC cs l
  | [], _, _, h => by cases h; rfl
  | s :: l, cs, m, h => by
    change Dro ((s, shR cs s) :: ann (nxC cs s) l) m at h
    cases h with
    | keep p h' => exact dro_endC l _ h'
    | drop p hd h' =>
      have e : nxC cs s = cs := nxC_drw cs hd
      rw [e] at h'
      show _ = endC (nxC cs s) l
      rw [e]
      exact dro_endC l _ h'
theorem dro_kepN : ∀ l : List (St × Rc), Dro l (kepN l)
  | [] => .nil
  | p :: t => by
    unfold kepN
    split
    · next h =>
      refine .drop p ?_ (dro_kepN t)
      unfold hidB at h
      exact (Bool.and_eq_true_iff.1 h).1
    · exact .keep p (dro_kepN t)
theorem dro_wit (q : Rc) : ∀ l : List (St × Rc), Dro l (l.filter (witP q))
  | [] => .nil
  | p :: t => by
    rw [List.filter_cons]
    split
    · exact .keep p (dro_wit q t)
    · next h =>
      refine .drop p ?_ (dro_wit q t)
      unfold witP at h
      cases e : drw p.1
      · rw [e] at h; simp at h
      · rfl
theorem dro_len {l m : List (St × Rc)} (h : Dro l m) : m.length ≤ l.length := by
  induction h with
  | nil => exact Nat.le_refl _
  | keep p _ ih => simp; omega
  | drop p _ _ ih => simp; omega
theorem dro_sub {l m : List (St × Rc)} (h : Dro l m) : m.Sublist l := by
  induction h with
  | nil => exact List.Sublist.refl _
  | keep p _ ih => exact ih.cons_cons p
  | drop p _ _ ih => exact ih.cons p

/-- Norm with its rectangles. -/
theorem ann_norL (l : List St) : ann [] (norL l) = busA (kepN (ann [] l)) := by
  unfold norL
  rw [ann_busy, dro_ann l [] (dro_kepN _)]
theorem norL_len (l : List St) : (norL l).length ≤ l.length := by
  have h1 := busy_len ((kepN (ann [] l)).map Prod.fst)
  have h2 := dro_len (dro_kepN (ann [] l))
  rw [ann_len] at h2
  rw [List.length_map] at h1
  unfold norL
  omega
theorem norL_clp {l : List St} (h : clpE 0 l = 0) : clpE 0 (norL l) = 0 := idl_clp (bz_idl St.k _ []) 0 (dro_clp l [] 0 (dro_kepN _) h)
theorem norL_chk {l : List St} (h : chkS l = 0) : chkS (norL l) = 0 := by
  obtain ⟨h1, h2⟩ := chkS_zero h
  have := norL_len l
  unfold chkS
  rw [if_neg (by omega)]
  exact norL_clp h2

/-- Nothing in it is hidden. -/
def okN : List (St × Rc) → Prop
  | [] => True
  | p :: t => hidB p t = false ∧ okN t
theorem hidB_sub {p : St × Rc} {t u : List (St × Rc)} (h : u.Sublist t) (hp : hidB p t = false) : hidB p u = false := by
  unfold hidB at hp ⊢
  cases hd : drw p.1
  · rfl
  · rw [hd] at hp
    rw [Bool.true_and] at hp ⊢
    rw [Bool.or_eq_false_iff] at hp ⊢
    refine ⟨hp.1, ?_⟩
    rw [List.any_eq_false] at hp ⊢
    exact fun x hx => hp.2 x (h.subset hx)
theorem okN_sub {l m : List (St × Rc)} (h : m.Sublist l) : okN l → okN m := by
  induction h with
  | slnil => exact fun _ => trivial
  | cons p _ ih => exact fun h => ih h.2
  | cons_cons p h ih => exact fun k => ⟨hidB_sub h k.1, ih k.2⟩
theorem okN_kepN : ∀ l : List (St × Rc), okN (kepN l)
  | [] => trivial
  | p :: t => by
    unfold kepN
    split
    · exact okN_kepN t
    · next h => exact ⟨hidB_sub (dro_sub (dro_kepN t)) (Bool.eq_false_iff.2 h), okN_kepN t⟩
theorem kepN_same : ∀ l : List (St × Rc), okN l → kepN l = l
  | [], _ => rfl
  | p :: t, h => by
    unfold kepN
    rw [h.1, kepN_same t h.2]
    rfl
/-- Norm of Norm is Norm. -/
theorem norL_norL (l : List St) : norL (norL l) = norL l := by
  have h1 := ann_norL l
  have h2 : okN (ann [] (norL l)) := by
    rw [h1]
    exact okN_sub (idl_sub (bz_idl _ _ [])) (okN_kepN _)
  show busy ((kepN (ann [] (norL l))).map Prod.fst) = norL l
  rw [kepN_same _ h2, ann_fst]
  exact bz_same St.k (bz_nid St.k _ [] trivial)

end Go.Proofs.YtdmhcmngajmghaaGreatDoor

/-
  Strokes in memory: lists of them read and owned; strokes compared.
-/
namespace Go.Proofs.YtdmhcmngajmghaaGreatDoor
open Go.RowKit

/-- A stroke, cell by cell. -/
def sCel (s : St) : List Value := [.int .u8 s.k, .int .i64 s.r.x, .int .i64 s.r.y, .int .i64 s.r.w, .int .i64 s.r.h, .int .u8 s.c.r, .int .u8 s.c.g, .int .u8 s.c.b, .int .u8 s.c.a, .int .u8 s.b.r, .int .u8 s.b.g, .int .u8 s.b.b, .int .u8 s.b.a, .string s.t, .int .i64 s.n]
theorem sCel_len (s : St) : (sCel s).length = 15 := rfl
def flatZ : List St → List Value
  | [] => []
  | s :: l => sCel s ++ flatZ l
theorem flatZ_app (l m : List St) : flatZ (l ++ m) = flatZ l ++ flatZ m := by
  induction l with
  | nil => rfl
  | cons s l ih => show sCel s ++ flatZ (l ++ m) = (sCel s ++ flatZ l) ++ flatZ m; rw [ih, List.append_assoc]
theorem flatZ_one (s : St) : flatZ [s] = sCel s := List.append_nil _
theorem flatZ_len (l : List St) : (flatZ l).length = l.length * 15 := by
  induction l with
  | nil => rfl
  | cons s l ih => show (sCel s ++ flatZ l).length = _; rw [List.length_append, ih, sCel_len, List.length_cons]; omega
theorem flatZ_at (l : List St) (k : Nat) (h : k < l.length) (j : Nat) (hj : j < 15) : (flatZ l)[k * 15 + j]? = (sCel l[k])[j]? := by
  induction l generalizing k with
  | nil => simp at h
  | cons s l ih =>
    cases k with
    | zero =>
      show (sCel s ++ flatZ l)[0 * 15 + j]? = (sCel s)[j]?
      rw [Nat.zero_mul, Nat.zero_add, List.getElem?_append_left (by rw [sCel_len]; exact hj)]
    | succ k =>
      have h' : k < l.length := by simpa using h
      show (sCel s ++ flatZ l)[(k + 1) * 15 + j]? = (sCel l[k])[j]?
      rw [List.getElem?_append_right (by rw [sCel_len]; omega), sCel_len, ← ih k h']
      congr 1
      omega
theorem oneZ (s : St) : ∀ u ∈ sCel s, u.oneCell' = true := by
  intro u hu
  simp only [sCel, List.mem_cons, List.not_mem_nil, or_false] at hu
  rcases hu with rfl | rfl | rfl | rfl | rfl | rfl | rfl | rfl | rfl | rfl | rfl | rfl | rfl | rfl | rfl <;> rfl
theorem onesZ : ∀ (l : List St), ∀ u ∈ flatZ l, u.oneCell' = true
  | [], u, hu => by cases hu
  | s :: l, u, hu => by
    rcases List.mem_append.1 hu with h | h
    · exact oneZ s u h
    · exact onesZ l u h

/-- A stroke in memory, from a place of a block on. -/
def StAt (w : World) (g p : Nat) (s : St) : Prop := w.cell? ⟨g, p, none⟩ = some (.int .u8 s.k) ∧ w.cell? ⟨g, p + 1, none⟩ = some (.int .i64 s.r.x) ∧ w.cell? ⟨g, p + 2, none⟩ = some (.int .i64 s.r.y) ∧ w.cell? ⟨g, p + 3, none⟩ = some (.int .i64 s.r.w) ∧ w.cell? ⟨g, p + 4, none⟩ = some (.int .i64 s.r.h) ∧ w.cell? ⟨g, p + 5, none⟩ = some (.int .u8 s.c.r) ∧ w.cell? ⟨g, p + 6, none⟩ = some (.int .u8 s.c.g) ∧ w.cell? ⟨g, p + 7, none⟩ = some (.int .u8 s.c.b) ∧ w.cell? ⟨g, p + 8, none⟩ = some (.int .u8 s.c.a) ∧ w.cell? ⟨g, p + 9, none⟩ = some (.int .u8 s.b.r) ∧ w.cell? ⟨g, p + 10, none⟩ = some (.int .u8 s.b.g) ∧ w.cell? ⟨g, p + 11, none⟩ = some (.int .u8 s.b.b) ∧ w.cell? ⟨g, p + 12, none⟩ = some (.int .u8 s.b.a) ∧ w.cell? ⟨g, p + 13, none⟩ = some (.string s.t) ∧ w.cell? ⟨g, p + 14, none⟩ = some (.int .i64 s.n)
theorem stat_iff {w : World} {g p : Nat} {s : St} : StAt w g p s ↔ ∀ j, j < 15 → w.cell? ⟨g, p + j, none⟩ = (sCel s)[j]? := by
  constructor
  · rintro ⟨h0, h1, h2, h3, h4, h5, h6, h7, h8, h9, h10, h11, h12, h13, h14⟩ j hj
    match j, hj with
    | 0, _ => exact h0
    | 1, _ => exact h1
    | 2, _ => exact h2
    | 3, _ => exact h3
    | 4, _ => exact h4
    | 5, _ => exact h5
    | 6, _ => exact h6
    | 7, _ => exact h7
    | 8, _ => exact h8
    | 9, _ => exact h9
    | 10, _ => exact h10
    | 11, _ => exact h11
    | 12, _ => exact h12
    | 13, _ => exact h13
    | 14, _ => exact h14
  · intro h
    exact ⟨h 0 (by decide), h 1 (by decide), h 2 (by decide), h 3 (by decide), h 4 (by decide), h 5 (by decide), h 6 (by decide), h 7 (by decide), h 8 (by decide), h 9 (by decide), h 10 (by decide), h 11 (by decide), h 12 (by decide), h 13 (by decide), h 14 (by decide)⟩
theorem StAt.kept {w w' : World} {g p : Nat} {s : St} (h : StAt w g p s) (k : ∀ o, w'.cell? ⟨g, o, none⟩ = w.cell? ⟨g, o, none⟩) : StAt w' g p s := by
  rw [stat_iff] at h ⊢
  intro j hj
  rw [k, h j hj]
/-- A slice that holds strokes. -/
def LsS (w : World) (v : Value) (l : List St) : Prop := ∃ oa cap, v = .slice oa l.length cap ∧ l.length ≤ cap ∧ (0 < l.length → ∃ g o, oa = some ⟨g, o, none⟩ ∧ g < w.heap.size ∧ ∀ i (h : i < l.length), StAt w g (o + i * 15) l[i])
theorem LsS.below {w w' : World} {v : Value} {l : List St} (h : LsS w v l) (hb : Below w.heap.size w w') : LsS w' v l := by
  obtain ⟨oa, cap, e, hc, hg⟩ := h
  refine ⟨oa, cap, e, hc, fun hp => ?_⟩
  obtain ⟨g, o, e1, g1, g2⟩ := hg hp
  exact ⟨g, o, e1, Nat.lt_of_lt_of_le g1 hb.size, fun i hi => (g2 i hi).kept fun j => hb.cell (p := ⟨g, j, none⟩) g1⟩
theorem lss_nil (w : World) : LsS w (.slice none 0 0) [] := ⟨none, 0, rfl, Nat.le_refl _, fun h => absurd h (Nat.lt_irrefl 0)⟩
/-- Strokes that a call made. -/
def OwS (lo : Nat) (w : World) (v : Value) (l : List St) : Prop := w.ownsRow lo 50 15 v l.length (flatZ l)
theorem OwS.nil (lo : Nat) (w : World) : OwS lo w (.slice none 0 0) [] := World.ownsRow_nil _ _ _ _
theorem OwS.lss {lo : Nat} {w : World} {v : Value} {l : List St} (h : OwS lo w v l) : LsS w v l := by
  obtain ⟨hl, ⟨rfl, h0⟩ | ⟨g, cap, cur, rfl, hb, hc, h1, h2, h3, h4⟩⟩ := id h
  · obtain rfl : l = [] := List.length_eq_zero_iff.1 h0
    exact lss_nil w
  · refine ⟨_, cap, rfl, h1, fun _ => ⟨g, 0, rfl, (Array.getElem?_eq_some_iff.1 hc).1, fun i hi => ?_⟩⟩
    rw [stat_iff]
    intro j hj
    rw [Nat.zero_add, own_cell h (i * 15 + j) (by omega), flatZ_at l i hi j hj]

theorem info_strokeZ : (Tryz.prog.info? 50).map (fun i => (i.zero, i.size, i.bytes)) = some (some (.agg #[.int .u8 0, .int .i64 0, .int .i64 0, .int .i64 0, .int .i64 0, .int .u8 0, .int .u8 0, .int .u8 0, .int .u8 0, .int .u8 0, .int .u8 0, .int .u8 0, .int .u8 0, .string ByteArray.empty, .int .i64 0]), 15, 72) := by kernel_rfl

/-- Two strokes, compared. -/
def eqS (x y : St) : Bool := (x.k == y.k) && ((x.r.x == y.r.x) && ((x.r.y == y.r.y) && ((x.r.w == y.r.w) && ((x.r.h == y.r.h) && ((x.c.r == y.c.r) && ((x.c.g == y.c.g) && ((x.c.b == y.c.b) && ((x.c.a == y.c.a) && ((x.b.r == y.b.r) && ((x.b.g == y.b.g) && ((x.b.b == y.b.b) && ((x.b.a == y.b.a) && ((decide (x.t.toList = y.t.toList)) && (x.n == y.n))))))))))))))
theorem ztx_list (t : ByteArray) : t.toList = t.data.toList := by first | exact ByteArray.toList_eq t | exact Lib.toList_data t | simp
theorem ztx_inj {t u : ByteArray} : t.toList = u.toList ↔ t = u := by
  rw [ztx_list, ztx_list]
  constructor
  · intro h
    obtain ⟨d⟩ := t
    obtain ⟨e⟩ := u
    have h : d.toList = e.toList := h
    rw [Array.toList_inj.1 h]
  · intro h
    rw [h]
theorem eqS_iff (x y : St) : eqS x y = true ↔ x = y := by
  obtain ⟨xk, ⟨x1, x2, x3, x4⟩, ⟨x5, x6, x7, x8⟩, ⟨x9, x10, x11, x12⟩, xt, xn⟩ := x
  obtain ⟨yk, ⟨y1, y2, y3, y4⟩, ⟨y5, y6, y7, y8⟩, ⟨y9, y10, y11, y12⟩, yt, yn⟩ := y
  simp [eqS, and_assoc, ztx_inj]
theorem eqS_self (x : St) : eqS x x = true := (eqS_iff x x).2 rfl
theorem chainZ {p : Prop} [Decidable p] {A : Result Value} {b : Bool} {w : World} (h : A = .ok (.bool b) w) : (if p then A else .ok (.bool false) w) = .ok (.bool (decide p && b)) w := by
  by_cases hp : p <;> simp [hp, h]
theorem chainY {p : Prop} [Decidable p] {w : World} : (if p then Result.ok (Value.bool true) w else .ok (.bool false) w) = .ok (.bool (decide p)) w := by
  by_cases hp : p <;> simp [hp]
theorem chainN {p : Prop} [Decidable p] {A : Result Value} {b : Bool} {w : World} (h : A = .ok (.bool (!b)) w) : (if p then A else .ok (.bool true) w) = .ok (.bool (!(decide p && b))) w := by
  by_cases hp : p <;> simp [hp, h]
theorem chainM {p : Prop} [Decidable p] {w : World} : (if p then Result.ok (Value.bool false) w else .ok (.bool true) w) = .ok (.bool (!decide p)) w := by
  by_cases hp : p <;> simp [hp]

set_option maxHeartbeats 1000000 in
theorem eql_stroke (x y : St) (w : World) : (binOp .eql 50 (Value.agg #[.int .u8 x.k, .int .i64 x.r.x, .int .i64 x.r.y, .int .i64 x.r.w, .int .i64 x.r.h, .int .u8 x.c.r, .int .u8 x.c.g, .int .u8 x.c.b, .int .u8 x.c.a, .int .u8 x.b.r, .int .u8 x.b.g, .int .u8 x.b.b, .int .u8 x.b.a, .string x.t, .int .i64 x.n]) (Value.agg #[.int .u8 y.k, .int .i64 y.r.x, .int .i64 y.r.y, .int .i64 y.r.w, .int .i64 y.r.h, .int .u8 y.c.r, .int .u8 y.c.g, .int .u8 y.c.b, .int .u8 y.c.a, .int .u8 y.b.r, .int .u8 y.b.g, .int .u8 y.b.b, .int .u8 y.b.a, .string y.t, .int .i64 y.n])).run Tryz.prog w = .ok (.bool (eqS x y)) w := by
  simp [go_sem]
  exact chainZ (chainZ (chainZ (chainZ (chainZ (chainZ (chainZ (chainZ (chainZ (chainZ (chainZ (chainZ (chainZ (chainZ chainY)))))))))))))

set_option maxHeartbeats 1000000 in
theorem neq_stroke (x y : St) (w : World) : (binOp .neq 50 (Value.agg #[.int .u8 x.k, .int .i64 x.r.x, .int .i64 x.r.y, .int .i64 x.r.w, .int .i64 x.r.h, .int .u8 x.c.r, .int .u8 x.c.g, .int .u8 x.c.b, .int .u8 x.c.a, .int .u8 x.b.r, .int .u8 x.b.g, .int .u8 x.b.b, .int .u8 x.b.a, .string x.t, .int .i64 x.n]) (Value.agg #[.int .u8 y.k, .int .i64 y.r.x, .int .i64 y.r.y, .int .i64 y.r.w, .int .i64 y.r.h, .int .u8 y.c.r, .int .u8 y.c.g, .int .u8 y.c.b, .int .u8 y.c.a, .int .u8 y.b.r, .int .u8 y.b.g, .int .u8 y.b.b, .int .u8 y.b.a, .string y.t, .int .i64 y.n])).run Tryz.prog w = .ok (.bool (!eqS x y)) w := by
  simp [go_sem]
  exact chainN (chainN (chainN (chainN (chainN (chainN (chainN (chainN (chainN (chainN (chainN (chainN (chainN (chainN chainM)))))))))))))

theorem eql_co (a b : Co) (w : World) : (binOp .eql 26 (.agg #[.int .u8 a.r, .int .u8 a.g, .int .u8 a.b, .int .u8 a.a]) (.agg #[.int .u8 b.r, .int .u8 b.g, .int .u8 b.b, .int .u8 b.a])).run Tryz.prog w = .ok (.bool ((a.r == b.r) && ((a.g == b.g) && ((a.b == b.b) && (a.a == b.a))))) w := by
  simp [go_sem]
  exact chainZ (chainZ (chainZ chainY))
theorem neq_co0 (a : Co) (w : World) : (binOp .neq 26 (.agg #[.int .u8 a.r, .int .u8 a.g, .int .u8 a.b, .int .u8 a.a]) (.agg #[.int .u8 0, .int .u8 0, .int .u8 0, .int .u8 0])).run Tryz.prog w = .ok (.bool (!coE a)) w := by
  simp [go_sem]
  exact chainN (chainN (chainN chainM))
theorem neq_rc0 (a : Rc) (w : World) : (binOp .neq 48 (.agg #[.int .i64 a.x, .int .i64 a.y, .int .i64 a.w, .int .i64 a.h]) (.agg #[.int .i64 0, .int .i64 0, .int .i64 0, .int .i64 0])).run Tryz.prog w = .ok (.bool (!zZr a)) w := neq_rect a.x a.y a.w a.h 0 0 0 0 w

end Go.Proofs.YtdmhcmngajmghaaGreatDoor

/-
  Contracts of the document's answer for layer 13: what is wrong with a stroke.
-/
namespace Go.Proofs.YtdmhcmngajmghaaGreatDoor
open Go.RowKit

theorem ztx_ne {t : ByteArray} (h : t.size ≠ 0) : ¬ (t = ByteArray.empty) ∧ t.toList.isEmpty = false := by
  refine ⟨by rintro rfl; exact h rfl, ?_⟩
  rw [ztx_list]
  cases hd : t.data.toList with
  | nil => exact absurd (congrArg List.length hd) (by rw [Array.length_toList]; exact h)
  | cons _ _ => rfl
theorem ztx_nil {t : ByteArray} (h : t.size = 0) : t = ByteArray.empty := by
  obtain ⟨d⟩ := t
  have : d = #[] := Array.eq_empty_of_size_eq_zero h
  rw [this]; rfl

theorem wroK_no {s : St} (hw : wroK s = false) : ¬ s.k < 1 ∧ ¬ 5 < s.k ∧ ¬ s.n < 0 ∧ ¬ 1048576 < s.n ∧ ¬ (65536 : Int) < (s.t.size : Int) ∧ (s.k = 1 ∨ s.k = 2 ∨ s.k = 3 ∨ s.k = 4 ∨ s.k = 5) := by
  unfold wroK at hw
  simp only [Bool.or_eq_false_iff, decide_eq_false_iff_not] at hw
  omega
theorem wroF_yes {s : St} (hw : wroF s = true) (hk : s.k = 1 ∨ s.k = 2 ∨ s.k = 3 ∨ s.k = 4 ∨ s.k = 5) : (s.k ≠ 3 ∧ s.t.size ≠ 0) ∨ (s.k ≠ 3 ∧ s.t.size = 0 ∧ coE s.b = false) ∨ ((s.k = 4 ∨ s.k = 5) ∧ s.t.size = 0 ∧ coE s.b = true ∧ coE s.c = false) ∨ (s.k = 5 ∧ s.t.size = 0 ∧ coE s.b = true ∧ coE s.c = true ∧ zZr s.r = false) := by
  unfold wroF at hw
  by_cases hz : s.t.size = 0
  · cases hb : coE s.b <;> cases hc : coE s.c <;> cases hr : zZr s.r <;> rcases hk with k | k | k | k | k <;> simp [k, hz, hb, hc, hr] at hw ⊢
  · rcases hk with k | k | k | k | k <;> simp [k, hz] at hw ⊢
theorem wroF_not {s : St} (hw : wroF s = false) (hk : s.k = 1 ∨ s.k = 2 ∨ s.k = 3 ∨ s.k = 4 ∨ s.k = 5) : ((s.k = 1 ∨ s.k = 2) ∧ s.t.size = 0 ∧ coE s.b = true) ∨ s.k = 3 ∨ (s.k = 4 ∧ s.t.size = 0 ∧ coE s.b = true ∧ coE s.c = true) ∨ (s.k = 5 ∧ s.t.size = 0 ∧ coE s.b = true ∧ coE s.c = true ∧ zZr s.r = true) := by
  unfold wroF at hw
  by_cases hz : s.t.size = 0
  · cases hb : coE s.b <;> cases hc : coE s.c <;> cases hr : zZr s.r <;> rcases hk with k | k | k | k | k <;> simp [k, hz, hb, hc, hr] at hw ⊢
  · rcases hk with k | k | k | k | k <;> simp [k, hz] at hw ⊢

end Go.Proofs.YtdmhcmngajmghaaGreatDoor

/-
  Contracts of the document's answer for layer 13: Check, Draws.
-/
namespace Go.Proofs.YtdmhcmngajmghaaGreatDoor
open Go.RowKit

/-- Texts as long as a machine's may be. -/
def Txs (l : List St) : Prop := ∀ s ∈ l, s.t.size ≤ 9223372036854775807

theorem clp_step {m : Nat} {s : St} {t : List St} {R : Int} (h : clpE m (s :: t) = R) : (oneE s ≠ 0 → R = oneE s) ∧ (oneE s = 0 → s.k = 5 → m = 0 → R = 130) ∧ (oneE s = 0 → ¬ (s.k = 5 ∧ m = 0) → clpE (opn m s) t = R) := by
  unfold clpE at h
  refine ⟨fun h1 => ?_, fun h1 h2 h3 => ?_, fun h1 h2 => ?_⟩
  · rw [if_pos h1] at h; exact h.symm
  · rw [if_neg (by simp [h1]), if_pos ⟨h2, h3⟩] at h; exact h.symm
  · rw [if_neg (by simp [h1]), if_neg h2] at h; exact h

end Go.Proofs.YtdmhcmngajmghaaGreatDoor

/-
  Strokes as they come in.
-/
namespace Go.Proofs.YtdmhcmngajmghaaGreatDoor
open Go.RowKit

/-- A stroke as it comes in: its numbers are such as its types hold. -/
def WfS (s : St) : Prop := (0 ≤ s.k ∧ s.k ≤ 255) ∧ (I64 s.r.x ∧ I64 s.r.y ∧ I64 s.r.w ∧ I64 s.r.h) ∧ s.c.ok ∧ s.b.ok ∧ s.t.size ≤ 9223372036854775807 ∧ I64 s.n
def Wfs (l : List St) : Prop := ∀ s ∈ l, WfS s
theorem Wfs.txs {l : List St} (h : Wfs l) : Txs l := fun s hs => (h s hs).2.2.2.2.1

end Go.Proofs.YtdmhcmngajmghaaGreatDoor

/-
  A list of strokes, a point that came in: written out.
-/
namespace Go.Proofs.YtdmhcmngajmghaaGreatDoor
open Go.ChangeShapes Go.WideShapes Go.ChangeAt Go.RowKit Go.Joins

theorem cells_c : Tryz.prog.cellsOf 26 = 4 := by kernel_rfl
theorem cells_u8 : Tryz.prog.cellsOf 5 = 1 := by kernel_rfl
theorem cells_t : Tryz.prog.cellsOf 9 = 1 := by kernel_rfl
theorem cells_st : Tryz.prog.cellsOf 50 = 15 := by kernel_rfl

theorem trod_struct6 {H : Type} {enc : TypeId × Value → H} {P : Program} {w : World} {base : Nat} {spare : Nat → Bool} {held : Bool} {t : TypeId} {f0 f1 f2 f3 f4 f5 : Field} {fuel : Nat} {cs : List Value} {x : DataW H × List MemPlace} (ht : P.underlying t = some (.struct #[f0, f1, f2, f3, f4, f5])) (h : DataW.trod enc P w base spare held fuel t cs = some x) :
    ∃ y0 y1 y2 y3 y4 y5 n, cs.length = P.cellsOf t ∧ DataW.trod enc P w base spare held n f0.type ((cs.drop f0.offset).take (P.cellsOf f0.type)) = some y0 ∧
      DataW.trod enc P w base spare held n f1.type ((cs.drop f1.offset).take (P.cellsOf f1.type)) = some y1 ∧ DataW.trod enc P w base spare held n f2.type ((cs.drop f2.offset).take (P.cellsOf f2.type)) = some y2 ∧
      DataW.trod enc P w base spare held n f3.type ((cs.drop f3.offset).take (P.cellsOf f3.type)) = some y3 ∧ DataW.trod enc P w base spare held n f4.type ((cs.drop f4.offset).take (P.cellsOf f4.type)) = some y4 ∧ DataW.trod enc P w base spare held n f5.type ((cs.drop f5.offset).take (P.cellsOf f5.type)) = some y5 := by
  obtain ⟨xs, n, _, rfl, hl, hlen, hf⟩ := DataW.trod_struct ht h
  match xs, hlen with
  | [y0, y1, y2, y3, y4, y5], _ => exact ⟨y0, y1, y2, y3, y4, y5, n, hl, by simpa using hf 0 f0 rfl, by simpa using hf 1 f1 rfl, by simpa using hf 2 f2 rfl, by simpa using hf 3 f3 rfl, by simpa using hf 4 f4 rfl, by simpa using hf 5 f5 rfl⟩

theorem colZ_cells {H : Type} {enc : TypeId × Value → H} {W : World} {b : Nat} {sp : Nat → Bool} {held : Bool} {fuel : Nat} {c0 c1 c2 c3 : Value} {x : DataW H × List MemPlace} (h : DataW.trod enc Tryz.prog W b sp held fuel 26 [c0, c1, c2, c3] = some x) :
    ∃ c : Co, c0 = .int .u8 c.r ∧ c1 = .int .u8 c.g ∧ c2 = .int .u8 c.b ∧ c3 = .int .u8 c.a ∧ c.ok := by
  obtain ⟨y0, y1, y2, y3, n, _, _, h0, h1, h2, h3⟩ := trod_struct4 Tryz.underlying26 h
  simp [cells_u8] at h0 h1 h2 h3
  obtain ⟨a0, e0, _, w0⟩ := DataW.trod_int Tryz.underlying5 h0
  obtain ⟨a1, e1, _, w1⟩ := DataW.trod_int Tryz.underlying5 h1
  obtain ⟨a2, e2, _, w2⟩ := DataW.trod_int Tryz.underlying5 h2
  obtain ⟨a3, e3, _, w3⟩ := DataW.trod_int Tryz.underlying5 h3
  simp at e0 e1 e2 e3
  have b0 := bounds_u8 w0
  have b1 := bounds_u8 w1
  have b2 := bounds_u8 w2
  have b3 := bounds_u8 w3
  refine ⟨⟨a0, a1, a2, a3⟩, e0, e1, e2, e3, ?_⟩
  unfold Co.ok By
  dsimp only
  omega

set_option maxRecDepth 100000 in
theorem rectZ_cells {H : Type} {enc : TypeId × Value → H} {W : World} {b : Nat} {sp : Nat → Bool} {held : Bool} {fuel : Nat} {cs : List Value} {x : DataW H × List MemPlace} (h : DataW.trod enc Tryz.prog W b sp held fuel 48 cs = some x) :
    ∃ r : Rc, cs = [.int .i64 r.x, .int .i64 r.y, .int .i64 r.w, .int .i64 r.h] ∧ I64 r.x ∧ I64 r.y ∧ I64 r.w ∧ I64 r.h := by
  obtain ⟨y0, y1, n, _, hl, h0, h1⟩ := trod_struct2 Tryz.underlying48 h
  rw [cells_r] at hl
  match cs, hl with
  | [c0, c1, c2, c3], _ =>
    simp [cells_p, cells_s] at h0 h1
    obtain ⟨y00, y01, n0, _, _, h00, h01⟩ := trod_struct2 Tryz.underlying46 h0
    obtain ⟨y10, y11, n1, _, _, h10, h11⟩ := trod_struct2 Tryz.underlying24 h1
    simp [cells_i] at h00 h01 h10 h11
    obtain ⟨a0, e0, _, w0⟩ := DataW.trod_int Tryz.underlying3 h00
    obtain ⟨a1, e1, _, w1⟩ := DataW.trod_int Tryz.underlying3 h01
    obtain ⟨a2, e2, _, w2⟩ := DataW.trod_int Tryz.underlying3 h10
    obtain ⟨a3, e3, _, w3⟩ := DataW.trod_int Tryz.underlying3 h11
    simp at e0 e1 e2 e3
    subst e0 e1 e2 e3
    exact ⟨⟨a0, a1, a2, a3⟩, rfl, i64_of w0, i64_of w1, i64_of w2, i64_of w3⟩

set_option maxRecDepth 100000 in
theorem stroke_cells {H : Type} {enc : TypeId × Value → H} {W : World} {b : Nat} {sp : Nat → Bool} {held : Bool} {fuel : Nat} {cs : List Value} {x : DataW H × List MemPlace} (h : DataW.trod enc Tryz.prog W b sp held fuel 50 cs = some x) :
    ∃ s : St, cs = sCel s ∧ WfS s := by
  obtain ⟨y0, y1, y2, y3, y4, y5, n, hl, h0, h1, h2, h3, h4, h5⟩ := trod_struct6 Tryz.underlying50 h
  rw [cells_st] at hl
  match cs, hl with
  | [c0, c1, c2, c3, c4, c5, c6, c7, c8, c9, c10, c11, c12, c13, c14], _ =>
    simp [cells_u8, cells_r, cells_c, cells_t, cells_i] at h0 h1 h2 h3 h4 h5
    obtain ⟨a0, e0, _, w0⟩ := DataW.trod_int Tryz.underlying5 h0
    obtain ⟨r, er, i1, i2, i3, i4⟩ := rectZ_cells h1
    obtain ⟨c, d0, d1, d2, d3, okc⟩ := colZ_cells h2
    obtain ⟨k, f0, f1, f2, f3, okk⟩ := colZ_cells h3
    obtain ⟨t, et, _, wt⟩ := DataW.trod_string Tryz.underlying9 h4
    obtain ⟨m, em, _, wm⟩ := DataW.trod_int Tryz.underlying3 h5
    simp at e0 er et em
    obtain ⟨r1, r2, r3, r4⟩ := er
    have hb := bounds_u8 w0
    refine ⟨⟨a0, r, c, k, t, m⟩, ?_, ⟨by dsimp only; omega, by dsimp only; omega⟩, ⟨i1, i2, i3, i4⟩, okc, okk, wt, i64_of wm⟩
    rw [e0, r1, r2, r3, r4, d0, d1, d2, d3, f0, f1, f2, f3, et, em]
    rfl

theorem strokes_of {W : World} {g o : Nat} : ∀ (n : Nat), (∀ i, i < n → ∃ s : St, StAt W g (o + i * 15) s ∧ WfS s) → ∃ l : List St, l.length = n ∧ (∀ i (h : i < l.length), StAt W g (o + i * 15) l[i]) ∧ Wfs l
  | 0, _ => ⟨[], rfl, fun i h => absurd h (Nat.not_lt_zero i), fun r hr => by simp at hr⟩
  | n + 1, h => by
    obtain ⟨rs, hl, ha, hw⟩ := strokes_of n fun i hi => h i (by omega)
    obtain ⟨r, hr, hz⟩ := h n (by omega)
    refine ⟨rs ++ [r], by simp [hl], fun i hi => ?_, fun x hx => ?_⟩
    · by_cases e : i < rs.length
      · rw [List.getElem_append_left e]; exact ha i e
      · have : i = n := by simp at hi; omega
        subst this
        subst hl
        rw [List.getElem_concat_length rfl]
        exact hr
    · rcases List.mem_append.1 hx with hx | hx
      · exact hw x hx
      · simp at hx; subst hx; exact hz

set_option maxRecDepth 100000 in
theorem open_strokes {H : Type} {enc : TypeId × Value → H} {W : World} {base b : Nat} {sp : Nat → Bool} {held : Bool} {v : Value} {d : DataW H} {p : List MemPlace}
    (hv : Value.okWide Tryz.prog W .any base 22 v) (h : DataW.Trod enc Tryz.prog W b sp held 22 v d p) : ∃ l : List St, LsS W v l ∧ Wfs l ∧ NoNil v := by
  obtain ⟨oa, len, cap, rfl⟩ := okWide_slice Tryz.underlying22 hv
  obtain ⟨fuel, hf⟩ := h
  rcases DataW.trod_slice Tryz.underlying22 hf with ⟨he, _⟩ | ⟨a, len', cap', el, rest, n, _, he, _, _, hlc, hcm, hel, hat, _, _⟩
  · simp [Value.cells] at he
    obtain ⟨rfl, rfl, rfl⟩ := he
    exact ⟨[], ⟨none, 0, rfl, Nat.le_refl _, fun h => by simp at h⟩, fun r hr => by simp at hr, fun c hc => by injection hc with _ _ h; exact h.symm⟩
  · simp [Value.cells] at he
    obtain ⟨rfl, rfl, rfl⟩ := he
    have hnn : NoNil (.slice (some a) len cap) := fun c hc => by injection hc with h1 _ _; cases h1
    rw [cells_st] at hat
    obtain ⟨g, o, s⟩ := a
    have key : ∀ i, i < len → ∃ r : St, (∀ j, j < 15 → W.cell? ((Addr.mk g o s).add (i * 15) |>.add j) = (sCel r)[j]?) ∧ WfS r := by
      intro i hi
      have h1 := hat i hi
      obtain ⟨bb, hb⟩ : ∃ bb, el[i]? = some bb := ⟨el[i]'(by omega), List.getElem?_eq_getElem (by omega)⟩
      rw [hb] at h1
      obtain ⟨ce, hce, hte⟩ := Option.bind_eq_some_iff.1 h1
      obtain ⟨r, hr, hw⟩ := stroke_cells hte
      obtain ⟨_, _, hcc⟩ := World.cells?_some hce
      exact ⟨r, fun j hj => by rw [hcc j hj, hr], hw⟩
    by_cases h0 : len = 0
    · subst h0
      exact ⟨[], ⟨_, cap, rfl, Nat.zero_le _, fun h => by simp at h⟩, fun r hr => by simp at hr, hnn⟩
    obtain rfl : s = none := by
      obtain ⟨r, hr, _⟩ := key 0 (by omega)
      have h00 := hr 0 (by omega)
      have : (Addr.add (Addr.add ⟨g, o, s⟩ (0 * 15)) 0) = ⟨g, o, s⟩ := by simp [Addr.add]
      rw [this] at h00
      exact Go.Proofs.cell_spot h00
    obtain ⟨rs, hl, ha, hw⟩ := strokes_of (W := W) (g := g) (o := o) len fun i hi => by
      obtain ⟨r, hr, hz⟩ := key i hi
      have e := fun j hj => hr j hj
      simp only [Addr.add_lit] at e
      exact ⟨r, stat_iff.2 e, hz⟩
    subst hl
    have hg : g < W.heap.size := by
      have h1 := (ha 0 (by omega)).1
      rcases Nat.lt_or_ge g W.heap.size with h' | h'
      · exact h'
      · simp [World.cell?, Array.getElem?_eq_none h'] at h1
    exact ⟨rs, ⟨_, cap, rfl, hlc, fun _ => ⟨g, o, rfl, hg, ha⟩⟩, hw, hnn⟩

set_option maxRecDepth 100000 in
theorem open_pt {H : Type} {enc : TypeId × Value → H} {W : World} {base b : Nat} {sp : Nat → Bool} {held : Bool} {v : Value} {d : DataW H} {p : List MemPlace}
    (hv : Value.okWide Tryz.prog W .any base 46 v) (h : DataW.Trod enc Tryz.prog W b sp held 46 v d p) : ∃ x y : Int, v = .agg #[.int .i64 x, .int .i64 y] ∧ I64 x ∧ I64 y := by
  obtain ⟨c0, c1, y0, y1, m, rfl, rfl, rfl, hy0, hy1⟩ := open_agg2 Tryz.underlying46 (by kernel_rfl) cells_p hv h
  obtain ⟨a, e0, rfl, wa⟩ := DataW.trod_int Tryz.underlying3 hy0
  obtain ⟨c, e1, rfl, wc⟩ := DataW.trod_int Tryz.underlying3 hy1
  simp at e0 e1
  subst e0 e1
  exact ⟨a, c, rfl, i64_of wa, i64_of wc⟩

end Go.Proofs.YtdmhcmngajmghaaGreatDoor

/-
  Boxes of colours; contracts of what two weights make of two numbers.
-/
namespace Go.Proofs.YtdmhcmngajmghaaGreatDoor
open Go.RowKit

/-- A block that holds a colour. -/
def AtC (w : World) (k : Nat) (c : Co) : Prop := w.cell? ⟨k, 0, none⟩ = some (.int .u8 c.r) ∧ w.cell? ⟨k, 1, none⟩ = some (.int .u8 c.g) ∧ w.cell? ⟨k, 2, none⟩ = some (.int .u8 c.b) ∧ w.cell? ⟨k, 3, none⟩ = some (.int .u8 c.a)
theorem AtC.drew {w : World} {k : Nat} {c : Co} (h : AtC w k c) : AtC w.drew k c := h
theorem AtC.lt {w : World} {k : Nat} {c : Co} (h : AtC w k c) : k < w.heap.size := lt_of_cell h.1
theorem AtC.below {W w1 : World} {k : Nat} {c : Co} (h : AtC W k c) (hb : Below W.heap.size W w1) : AtC w1 k c := by
  have e := keepAt hb h.1
  exact ⟨(e 0).trans h.1, (e 1).trans h.2.1, (e 2).trans h.2.2.1, (e 3).trans h.2.2.2⟩
theorem AtC.alloc {w : World} {k : Nat} {c : Co} (h : AtC w k c) (o : Obj) : AtC (w.alloc o) k c := h.below ((Below.refl _ _).alloc (Nat.le_refl _) o)
theorem AtC.new (w : World) (r g b a : Int) (t : TypeId) : AtC (w.alloc (.cells #[.int .u8 r, .int .u8 g, .int .u8 b, .int .u8 a] t)) w.heap.size ⟨r, g, b, a⟩ := by
  unfold AtC; simp
theorem AtC.new' (w : World) (k : Nat) (r g b a : Int) (t : TypeId) (h : k = w.heap.size) : AtC (w.alloc (.cells #[.int .u8 r, .int .u8 g, .int .u8 b, .int .u8 a] t)) k ⟨r, g, b, a⟩ := by
  rw [h]; exact AtC.new w r g b a t
theorem AtC.set {w : World} {k : Nat} {c : Co} (h : AtC w k c) {p : Addr} (v : Value) (hp : p.block ≠ k) : AtC (w.setCell p v) k c := by
  have e : ∀ o, (w.setCell p v).cell? ⟨k, o, none⟩ = w.cell? ⟨k, o, none⟩ := fun o => World.cell?_setCell_other w p ⟨k, o, none⟩ v (fun e => hp (by rw [e]))
  exact ⟨(e 0).trans h.1, (e 1).trans h.2.1, (e 2).trans h.2.2.1, (e 3).trans h.2.2.2⟩
theorem AtC.put {w : World} {k : Nat} {c : Co} (h : AtC w k c) (r g b a : Int) : AtC ((((w.setCell ⟨k, 0, none⟩ (.int .u8 r)).setCell ⟨k, 1, none⟩ (.int .u8 g)).setCell ⟨k, 2, none⟩ (.int .u8 b)).setCell ⟨k, 3, none⟩ (.int .u8 a)) k ⟨r, g, b, a⟩ := by
  obtain ⟨h0, h1, h2, h3⟩ := h
  unfold AtC
  simp [go_sem, h0, h1, h2, h3]
theorem gwC {W : World} {k : Nat} {c : Co} (h : AtC W k c) (t : Gw W) : AtC t.wd k c := h.below t.below

set_option maxHeartbeats 400000 in
theorem sharC_any (x y p q : Int) (w : World) (hx : By x) (hy : By y) (hp : 0 ≤ p) (hp' : p ≤ 65025) (hq : 0 ≤ q) (hq' : q ≤ 65025) (h : 0 < p + q) :
    Calls Tryz.prog 91 #[.int .u8 x, .int .u8 y, .int .i64 p, .int .i64 q] w fun e w' => e = .returned (.int .u8 (shr x y p q)) ∧ w' = w := by
  have hs := shr_by hx hy hp hq h
  obtain ⟨x1, x2⟩ := hx
  obtain ⟨y1, y2⟩ := hy
  obtain ⟨s1, s2⟩ := hs
  have m1 : 0 ≤ p * x := Int.mul_nonneg hp x1
  have m2 : p * x ≤ 65025 * 255 := Int.mul_le_mul hp' x2 x1 (by omega)
  have m3 : 0 ≤ q * y := Int.mul_nonneg hq y1
  have m4 : q * y ≤ 65025 * 255 := Int.mul_le_mul hq' y2 y1 (by omega)
  go_enter Tryz.func91, Tryz.ntmps91
  go_wp2
  go_ret
  have e : shr x y p q % 256 = shr x y p q := Int.emod_eq_of_lt s1 (by omega)
  exact ⟨congrArg (fun z => Ending.returned (.int .u8 z)) e, rfl⟩

/-- What a call that takes two colours and answers one has laid when it begins. -/
theorem boxes_ccc (w : World) (a b : Co) (t t' t'' : TypeId) : AtC (((w.alloc (.cells #[.int .u8 a.r, .int .u8 a.g, .int .u8 a.b, .int .u8 a.a] t)).alloc (.cells #[.int .u8 b.r, .int .u8 b.g, .int .u8 b.b, .int .u8 b.a] t')).alloc (.cells #[.int .u8 0, .int .u8 0, .int .u8 0, .int .u8 0] t'')) w.heap.size a ∧
    AtC (((w.alloc (.cells #[.int .u8 a.r, .int .u8 a.g, .int .u8 a.b, .int .u8 a.a] t)).alloc (.cells #[.int .u8 b.r, .int .u8 b.g, .int .u8 b.b, .int .u8 b.a] t')).alloc (.cells #[.int .u8 0, .int .u8 0, .int .u8 0, .int .u8 0] t'')) (w.heap.size + 1) b ∧
    AtC (((w.alloc (.cells #[.int .u8 a.r, .int .u8 a.g, .int .u8 a.b, .int .u8 a.a] t)).alloc (.cells #[.int .u8 b.r, .int .u8 b.g, .int .u8 b.b, .int .u8 b.a] t')).alloc (.cells #[.int .u8 0, .int .u8 0, .int .u8 0, .int .u8 0] t'')) (w.heap.size + 1 + 1) ⟨0, 0, 0, 0⟩ ∧
    Fr (((w.alloc (.cells #[.int .u8 a.r, .int .u8 a.g, .int .u8 a.b, .int .u8 a.a] t)).alloc (.cells #[.int .u8 b.r, .int .u8 b.g, .int .u8 b.b, .int .u8 b.a] t')).alloc (.cells #[.int .u8 0, .int .u8 0, .int .u8 0, .int .u8 0] t'')) (w.heap.size + 1 + 1) ∧
    Below w.heap.size w (((w.alloc (.cells #[.int .u8 a.r, .int .u8 a.g, .int .u8 a.b, .int .u8 a.a] t)).alloc (.cells #[.int .u8 b.r, .int .u8 b.g, .int .u8 b.b, .int .u8 b.a] t')).alloc (.cells #[.int .u8 0, .int .u8 0, .int .u8 0, .int .u8 0] t'')) := by
  have B := (AtC.new (w.alloc (.cells #[.int .u8 a.r, .int .u8 a.g, .int .u8 a.b, .int .u8 a.a] t)) b.r b.g b.b b.a t').alloc (.cells #[.int .u8 0, .int .u8 0, .int .u8 0, .int .u8 0] t'')
  have C := AtC.new ((w.alloc (.cells #[.int .u8 a.r, .int .u8 a.g, .int .u8 a.b, .int .u8 a.a] t)).alloc (.cells #[.int .u8 b.r, .int .u8 b.g, .int .u8 b.b, .int .u8 b.a] t')) 0 0 0 0 t''
  simp only [World.size_alloc] at B C
  exact ⟨((AtC.new w a.r a.g a.b a.a t).alloc _).alloc _, B, C, fr2 _ _ _ _ _, (((Below.refl _ w).alloc (Nat.le_refl _) _).alloc (by simp) _).alloc (by simp; omega) _⟩

set_option maxHeartbeats 1000000 in
theorem overK_any (a b : Co) (w : World) (ha : a.ok) (hb : b.ok) :
    Calls Tryz.prog 67 #[(Value.agg #[.int .u8 a.r, .int .u8 a.g, .int .u8 a.b, .int .u8 a.a]), (Value.agg #[.int .u8 b.r, .int .u8 b.g, .int .u8 b.b, .int .u8 b.a])] w fun e w' => e = .returned (Value.agg #[.int .u8 (overC a b).r, .int .u8 (overC a b).g, .int .u8 (overC a b).b, .int .u8 (overC a b).a]) ∧ Below w.heap.size w w' := by
  by_cases c0 : a.a = 0
  · rw [show overC a b = b by unfold overC; rw [if_pos c0]]
    go_enter Tryz.func67, Tryz.ntmps67
    go_wp2
    exact bodyPost_ret (v := (Value.agg #[.int .u8 b.r, .int .u8 b.g, .int .u8 b.b, .int .u8 b.a])) (by simp [results, Tryz.results67, go_sem]) rfl ⟨rfl, (((Below.refl _ w).alloc (Nat.le_refl _) _).alloc (by simp) _).alloc (by simp; omega) _⟩
  · have c1 : (a.a == 0) = false := by simpa using c0
    rw [show overC a b = ⟨shr a.r b.r (fro a) (beh a b), shr a.g b.g (fro a) (beh a b), shr a.b b.b (fro a) (beh a b), (fro a + beh a b + 127) / 255⟩ by unfold overC; rw [if_neg c0]]
    obtain ⟨w1, w2, w3, w4, w5⟩ := wts ha hb
    have w6 := wts_pos ha hb c0
    have hS : Hid (∀ x y w, By x → By y → Calls Tryz.prog 91 #[.int .u8 x, .int .u8 y, .int .i64 (255 * a.a), .int .i64 ((255 - a.a) * b.a)] w fun e w' => e = .returned (.int .u8 (shr x y (fro a) (beh a b))) ∧ w' = w) :=
      fun x y w hx hy => sharC_any x y _ _ w hx hy w1 w2 w3 w4 w6
    have hA : Hid (a.ok ∧ b.ok) := ⟨ha, hb⟩
    obtain ⟨_, _, _, a1, a2⟩ := id ha
    obtain ⟨_, _, _, b1, b2⟩ := id hb
    simp only [fro, beh] at w1 w2 w3 w4 w5 w6
    go_enter Tryz.func67, Tryz.ntmps67
    go_wp2_with fail
    obtain ⟨A, B, C, F, L⟩ := boxes_ccc w a b 26 26 26
    clear ha hb
    generalize hW : ((w.alloc (.cells #[.int .u8 a.r, .int .u8 a.g, .int .u8 a.b, .int .u8 a.a] 26)).alloc (.cells #[.int .u8 b.r, .int .u8 b.g, .int .u8 b.b, .int .u8 b.a] 26)).alloc (.cells #[.int .u8 0, .int .u8 0, .int .u8 0, .int .u8 0] 26) = W at *
    have HL : Hid (AtC W w.heap.size a ∧ AtC W (w.heap.size + 1) b ∧ AtC W (w.heap.size + 1 + 1) ⟨0, 0, 0, 0⟩ ∧ Fr W (w.heap.size + 1 + 1) ∧ Below w.heap.size w W) := ⟨A, B, C, F, L⟩
    clear A B C F L hW
    refine wp_region_lit 24 0 1 (fun _ => .cells #[] 0) [] (by kernel_rfl) (by kernel_rfl) rfl (fun k hk => absurd hk (by omega)) rfl (fun i h1 h2 => absurd h2 (by omega)) ?_
    apply Exists.intro
    refine ⟨fun bs ne => ?_, ?_⟩
    · obtain ⟨HA, HB, _⟩ := HL.out
      have d0 := fun t : Gb W bs => (HA.below t.below).1
      have d1 := fun t : Gb W bs => (HA.below t.below).2.1
      have d2 := fun t : Gb W bs => (HA.below t.below).2.2.1
      have d3 := fun t : Gb W bs => (HA.below t.below).2.2.2
      have e0 := fun t : Gb W bs => (HB.below t.below).1
      have e1 := fun t : Gb W bs => (HB.below t.below).2.1
      have e2 := fun t : Gb W bs => (HB.below t.below).2.2.1
      have e3 := fun t : Gb W bs => (HB.below t.below).2.2.2
      clear HA HB
      simp only [List.take_succ_cons, List.take_zero]
      repeat (go_big_quiet_step (first
        | (go_at_call_of 91 (Value.int .u8 a.r); exact gb_same (hS.out _ _ _ hA.out.1.1 hA.out.2.1))
        | (go_at_call_of 91 (Value.int .u8 a.g); exact gb_same (hS.out _ _ _ hA.out.1.2.1 hA.out.2.2.1))
        | (go_at_call_of 91 (Value.int .u8 a.b); exact gb_same (hS.out _ _ _ hA.out.1.2.2.1 hA.out.2.2.2.1))))
      exact wpQuiet_nil rfl
    · intro bl wr hb _ _
      obtain ⟨HA, HB, HC, HF, HD⟩ := HL.out
      replace HC := HC.below hb
      replace HF := (HF.below hb).2
      replace HD := HD.trans (hb.mono HD.size)
      obtain ⟨c0, c1, c2, c3⟩ := HC
      simp only [layL]
      refine wpAny_one 24 (by kernel_rfl) rfl ?_
      intro K hK
      go_simp
      refine hK _ _ ?_
      clear hK K
      refine wpAny_done (by kernel_rfl) ?_ _
      go_wp2
      exact bodyPost_ret (v := .agg #[.int .u8 _, .int .u8 _, .int .u8 _, .int .u8 _]) (by simp [results, Tryz.results67, go_sem, c0, c1, c2, c3, fro, beh]) rfl ⟨rfl, set4_below HD (by omega) _ _ _ _⟩

end Go.Proofs.YtdmhcmngajmghaaGreatDoor
