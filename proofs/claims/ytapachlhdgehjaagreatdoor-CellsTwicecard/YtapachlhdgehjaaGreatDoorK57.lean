/-
  Texts of this claim, one behind the other: what each is about stands ahead of it.
-/
import Derived.Test.YtapachlhdgehjaaGreatDoorK56
import Derived.Test.YtapachlhdgehjaaGreatDoorK51
import Derived.Test.YtapachlhdgehjaaGreatDoorK50
import Derived.Test.YtapachlhdgehjaaGreatDoorK53
/-
  What is known of awake's two texts.
-/
namespace Go.Proofs.YtapachlhdgehjaaGreatDoor
open Go.RowKit

def y8 : ByteArray := ⟨#[27, 91, 49, 59, 52, 72, 97, 98]⟩
def cA (n : Int) (c : Co) : Ce := ⟨n, c, coZ, false, false⟩
def sX0 : Stt := ⟨0, 0, coZ, coZ, S8⟩
def sX1 : Stt := ⟨1, 0, coZ, coZ, S8⟩
def sX2 : Stt := ⟨1, 0, wht, coZ, S8⟩
def sX3 : Stt := ⟨2, 0, wht, coZ, S8.set 1 (cA 97 wht)⟩
def sX4 : Stt := ⟨3, 0, wht, coZ, (S8.set 1 (cA 97 wht)).set 2 (cA 98 wht)⟩
def sX5 : Stt := ⟨1, 1, wht, coZ, (S8.set 1 (cA 97 wht)).set 2 (cA 98 wht)⟩
def sX6 : Stt := ⟨2, 1, wht, coZ, ((S8.set 1 (cA 97 wht)).set 2 (cA 98 wht)).set 5 (cA 99 wht)⟩
def iX (p : Nat) (s : Stt) : Prop := (p = 0 ∧ s = sX0) ∨ (p = 6 ∧ s = sX1) ∨ (p = 29 ∧ s = sX2) ∨ (p = 30 ∧ s = sX3) ∨ (p = 31 ∧ s = sX4) ∨ (p = 37 ∧ s = sX5) ∨ (p = 38 ∧ s = sX6)
theorem x8_size : x8.size = 38 := rfl
theorem wht_ok : wht.ok := ⟨⟨by decide, by decide⟩, ⟨by decide, by decide⟩, ⟨by decide, by decide⟩, ⟨by decide, by decide⟩⟩
theorem x8_known : Kno 4 2 x8 ⟨0, 0, coZ, coZ, S8⟩ iX false A8 0 := by
  refine ⟨.inl ⟨rfl, rfl⟩, ?_, ?_⟩
  · rintro p s h hp
    left
    rcases h with ⟨rfl, rfl⟩ | ⟨rfl, rfl⟩ | ⟨rfl, rfl⟩ | ⟨rfl, rfl⟩ | ⟨rfl, rfl⟩ | ⟨rfl, rfl⟩ | ⟨rfl, rfl⟩
    · exact ⟨6, sX1, by decide, by decide, .inl ⟨by decide +kernel, 1, 2, by decide +kernel, by decide, by decide, by decide, by decide, rfl⟩, .inr (.inl ⟨rfl, rfl⟩)⟩
    · exact ⟨23, sX2, by decide, by decide, .inr (.inl ⟨by decide +kernel, wht, wht_ok, by decide +kernel, rfl⟩), .inr (.inr (.inl ⟨rfl, rfl⟩))⟩
    · exact ⟨1, sX3, by decide, by decide, .inr (.inr ⟨by decide +kernel, by decide +kernel, by decide +kernel, 97, by decide +kernel, by decide, by decide, by decide +kernel, by decide, by decide, rfl⟩), .inr (.inr (.inr (.inl ⟨rfl, rfl⟩)))⟩
    · exact ⟨1, sX4, by decide, by decide, .inr (.inr ⟨by decide +kernel, by decide +kernel, by decide +kernel, 98, by decide +kernel, by decide, by decide, by decide +kernel, by decide, by decide, rfl⟩), .inr (.inr (.inr (.inr (.inl ⟨rfl, rfl⟩))))⟩
    · exact ⟨6, sX5, by decide, by decide, .inl ⟨by decide +kernel, 2, 2, by decide +kernel, by decide, by decide, by decide, by decide, rfl⟩, .inr (.inr (.inr (.inr (.inr (.inl ⟨rfl, rfl⟩)))))⟩
    · exact ⟨1, sX6, by decide, by decide, .inr (.inr ⟨by decide +kernel, by decide +kernel, by decide +kernel, 99, by decide +kernel, by decide, by decide, by decide +kernel, by decide, by decide, rfl⟩), .inr (.inr (.inr (.inr (.inr (.inr ⟨rfl, rfl⟩)))))⟩
    · rw [x8_size] at hp; omega
  · rintro s h
    rw [x8_size] at h
    rcases h with ⟨h, _⟩ | ⟨h, _⟩ | ⟨h, _⟩ | ⟨h, _⟩ | ⟨h, _⟩ | ⟨h, _⟩ | ⟨_, rfl⟩
    · cases h
    · cases h
    · cases h
    · cases h
    · cases h
    · cases h
    · exact ⟨rfl, rfl⟩

def sY1 : Stt := ⟨3, 0, coZ, coZ, S8⟩
def sY2 : Stt := ⟨4, 0, coZ, coZ, S8.set 3 (cA 97 coZ)⟩
def iY (p : Nat) (s : Stt) : Prop := (p = 0 ∧ s = sX0) ∨ (p = 6 ∧ s = sY1) ∨ (p = 7 ∧ s = sY2)
theorem y8_size : y8.size = 8 := rfl
theorem y8_known : Kno 4 2 y8 ⟨0, 0, coZ, coZ, S8⟩ iY true [] 7 := by
  refine ⟨.inl ⟨rfl, rfl⟩, ?_, ?_⟩
  · rintro p s h hp
    rcases h with ⟨rfl, rfl⟩ | ⟨rfl, rfl⟩ | ⟨rfl, rfl⟩
    · exact .inl ⟨6, sY1, by decide, by decide, .inl ⟨by decide +kernel, 1, 4, by decide +kernel, by decide, by decide, by decide, by decide, rfl⟩, .inr (.inl ⟨rfl, rfl⟩)⟩
    · exact .inl ⟨1, sY2, by decide, by decide, .inr (.inr ⟨by decide +kernel, by decide +kernel, by decide +kernel, 97, by decide +kernel, by decide, by decide, by decide +kernel, by decide, by decide, rfl⟩), .inr (.inr ⟨rfl, rfl⟩)⟩
    · exact .inr ⟨rfl, rfl, by decide +kernel, by decide +kernel, by decide +kernel, 98, 1, by decide +kernel, by decide, by decide, by decide +kernel, by decide, by decide, by decide⟩
  · rintro s h
    rw [y8_size] at h
    rcases h with ⟨h, _⟩ | ⟨h, _⟩ | ⟨h, _⟩ <;> cases h

end Go.Proofs.YtapachlhdgehjaaGreatDoor

/-
  The calls of awake over what it has drawn.
-/
namespace Go.Proofs.YtapachlhdgehjaaGreatDoor
open Go.RowKit

structure AwS (w : World) (wB sB gs qb ga ca : Nat) (W : World) : Prop where
  a : AwW w wB sB gs W
  q : Bk W qb #[.int .i64 4, .int .i64 2, .slice (some ⟨ga, 0, none⟩) 8 ca] 26
  l : LsC W (.slice (some ⟨ga, 0, none⟩) 8 ca) A8
theorem AwS.below {w : World} {wB sB gs qb ga ca : Nat} {W W' : World} (h : AwS w wB sB gs qb ga ca W) (hb : Below W.heap.size W W') : AwS w wB sB gs qb ga ca W' := ⟨h.a.below hb, h.q.below hb, h.l.below hb⟩
def AwU (W : World) (gu ou cu : Nat) : Prop := ∃ v1 v2, LsU W (.slice (some ⟨gu, ou, none⟩) 2 cu) [(ru1, v1), (ru2, v2)]
theorem AwU.below {W W' : World} {gu ou cu : Nat} (h : AwU W gu ou cu) (hb : Below W.heap.size W W') : AwU W' gu ou cu := by
  obtain ⟨v1, v2, h⟩ := h
  exact ⟨v1, v2, h.below hb⟩
theorem awText (w : World) (wB sB gs qb ga ca : Nat) (W : World) (hE : Env15 w) (h : AwS w wB sB gs qb ga ca W) :
    Calls Tryz.prog 22 #[.agg #[.int .i64 4, .int .i64 2, .slice (some ⟨ga, 0, none⟩) 8 ca]] W fun e w' => e = .returned (.tuple #[.string ⟨#[32, 97, 98, 32, 10, 32, 99, 32, 32, 10]⟩, .int .i64 0]) ∧ Below W.heap.size W w' := by
  have := text_ok 4 2 A8 ga 0 ca 8 W h.l rfl a8_ok (by decide) (by decide) (hE.t W h.a.lo).1
  rw [t8_eq] at this
  exact this
theorem awRuns (w : World) (wB sB gs qb ga ca : Nat) (W : World) (hE : Env15 w) (h : AwS w wB sB gs qb ga ca W) :
    Calls Tryz.prog 23 #[.agg #[.int .i64 4, .int .i64 2, .slice (some ⟨gs, 0, none⟩) 8 8], .agg #[.int .i64 4, .int .i64 2, .slice (some ⟨ga, 0, none⟩) 8 ca]] W fun e w' => ∃ gu ou cu, e = .returned (.tuple #[.slice (some ⟨gu, ou, none⟩) 2 cu, .int .i64 0]) ∧ Hid (AwU w' gu ou cu ∧ Below W.heap.size W w') := by
  refine (runs_ok 4 2 S8 A8 gs 0 8 ga 0 ca 8 W (flatC_bk h.a.s) h.l rfl rfl s8_ok a8_ok (by decide) (hE.t W h.a.lo).1).mono ?_
  rintro e w' ⟨u, R, rfl, hu⟩
  obtain ⟨hU, hR⟩ := hu.out
  rw [rn_eq] at hR
  obtain ⟨⟨r1, v1⟩, ⟨r2, v2⟩, rfl, rfl, rfl⟩ : ∃ p1 p2 : Ru × Value, R = [p1, p2] ∧ p1.1 = ru1 ∧ p2.1 = ru2 := by
    rcases R with _ | ⟨p1, _ | ⟨p2, _ | ⟨p3, t⟩⟩⟩
    · simp at hR
    · simp at hR
    · simp at hR
      exact ⟨p1, p2, rfl, hR.1, hR.2⟩
    · simp at hR
  have hL := hU.lsu
  obtain ⟨k0, oa, cu, rfl, hg⟩ := id hL
  obtain ⟨gu, ou, rfl, _, _⟩ := hg (by simp)
  exact ⟨gu, ou, cu, rfl, ⟨v1, v2, hL⟩, hU.b⟩
theorem ru_ok : ∀ r ∈ [ru1, ru2], okRu r ∧ ∀ c ∈ r.cs, TeC c := by
  intro r hr
  have : r = ru1 ∨ r = ru2 := by simpa using hr
  rcases this with rfl | rfl
  · refine ⟨⟨by decide +kernel, by decide, by decide +kernel, by decide⟩, fun c hc => ?_⟩
    have : c = ⟨97, wht, coZ, false, false⟩ ∨ c = ⟨98, wht, coZ, false, false⟩ := by simpa [ru1] using hc
    rcases this with rfl | rfl <;> exact ⟨wht_ok, ⟨⟨by decide, by decide⟩, ⟨by decide, by decide⟩, ⟨by decide, by decide⟩, ⟨by decide, by decide⟩⟩, by decide, by decide⟩
  · refine ⟨⟨by decide +kernel, by decide, by decide +kernel, by decide⟩, fun c hc => ?_⟩
    have : c = ⟨99, wht, coZ, false, false⟩ := by simpa [ru2] using hc
    subst this
    exact ⟨wht_ok, ⟨⟨by decide, by decide⟩, ⟨by decide, by decide⟩, ⟨by decide, by decide⟩, ⟨by decide, by decide⟩⟩, by decide, by decide⟩
theorem awEsc (w : World) (gu ou cu : Nat) (W : World) (hE : Env15 w) (hb : Below w.heap.size w W) (h : AwU W gu ou cu) :
    Calls Tryz.prog 24 #[.slice (some ⟨gu, ou, none⟩) 2 cu] W fun e w' => e = .returned (.tuple #[.string x8, .int .i64 0]) ∧ Below W.heap.size W w' := by
  obtain ⟨v1, v2, h⟩ := h
  have := esc_ok [(ru1, v1), (ru2, v2)] _ W h (fun p hp => by
    have : p = (ru1, v1) ∨ p = (ru2, v2) := by simpa using hp
    rcases this with rfl | rfl
    · exact ru_ok ru1 (by simp)
    · exact ru_ok ru2 (by simp)) (by simp) (by simp) x8_len (hE.t W hb).1 (hE.below hb).p
  have e : (⟨(escS (List.map Prod.fst [(ru1, v1), (ru2, v2)]) (coZ, coZ) [(ru1, v1), (ru2, v2)].length).1.toArray⟩ : ByteArray) = x8 := x8_eq
  rw [e] at this
  exact this
theorem awRead (w : World) (wB sB gs : Nat) (W : World) (hE : Env15 w) (h : AwW w wB sB gs W) :
    Calls Tryz.prog 25 #[.agg #[.int .i64 4, .int .i64 2, .slice (some ⟨gs, 0, none⟩) 8 8], .string x8] W fun e w' => ∃ g cap, e = .returned (.tuple #[.agg #[.int .i64 4, .int .i64 2, .slice (some ⟨g, 0, none⟩) 8 cap], .int .i64 0, .int .i64 0]) ∧ Hid (LsC w' (.slice (some ⟨g, 0, none⟩) 8 cap) A8 ∧ Below W.heap.size W w') := by
  refine (read_known 4 2 S8 _ x8 iX false A8 0 W (flatC_bk h.s) (fun c e => by cases e) s8_ok (by decide) (by decide) x8_known (hE.t W h.lo).1 (hE.below h.lo).d).mono ?_
  rintro e w' (⟨_, g, n, cap, rfl, hm, hb⟩ | ⟨hf, _⟩)
  · obtain rfl : n = 8 := hm.1.symm
    exact ⟨g, cap, rfl, hm.own.lsc, hb⟩
  · cases hf
theorem awRead2 (w : World) (wB sB gs : Nat) (W : World) (hE : Env15 w) (h : AwW w wB sB gs W) :
    Calls Tryz.prog 25 #[.agg #[.int .i64 4, .int .i64 2, .slice (some ⟨gs, 0, none⟩) 8 8], .string ⟨#[27, 91, 49, 59, 52, 72, 97, 98]⟩] W fun e w' => e = .returned (.tuple #[.agg #[.int .i64 0, .int .i64 0, .slice none 0 0], .int .i64 7, .int .i64 150]) ∧ Below W.heap.size W w' := by
  refine (read_known 4 2 S8 _ y8 iY true [] 7 W (flatC_bk h.s) (fun c e => by cases e) s8_ok (by decide) (by decide) y8_known (hE.t W h.lo).1 (hE.below h.lo).d).mono ?_
  rintro e w' (⟨hf, _⟩ | ⟨_, rfl, hb⟩)
  · cases hf
  · exact ⟨rfl, hb⟩
theorem awCheck (w : World) (W : World) (hE : Env15 w) (hb : Below w.heap.size w W) :
    Calls Tryz.prog 26 #[.agg #[.int .i64 1, .int .i64 0, .slice none 0 0]] W fun e w' => e = .returned (.int .i64 0) ∧ Below W.heap.size W w' := by
  have hv : LsC W (.slice none 0 0) [] := ⟨none, 0, rfl, Nat.le_refl _, fun h => absurd h (by decide)⟩
  have := checkC_any 1 0 [] _ W hv (by decide) (hE.t W hb).1
  rw [show scE 1 0 [] = 0 by decide +kernel] at this
  exact this

end Go.Proofs.YtapachlhdgehjaaGreatDoor
