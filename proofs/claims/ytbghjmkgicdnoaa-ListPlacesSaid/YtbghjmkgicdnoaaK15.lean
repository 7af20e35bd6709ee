/-
  Contracts of the document's answer for layer 13: Moved.
-/
import Derived.Test.YtbghjmkgicdnoaaK14
namespace Go.Proofs.Ytbghjmkgicdnoaa
open Go.RowKit
attribute [local go_sem] ite_max ite_min

set_option maxRecDepth 20000 in
set_option maxHeartbeats 8000000 in
theorem zmoved_any (l : List St) (p q : Int) (v : Value) (w : World) (hv : LsS w v l) (ht : Txs l) (hp : I64 p) (hq : I64 q) :
    Calls Try.prog 23 #[v, .agg #[.int .i64 p, .int .i64 q]] w fun e w' => AnsS w (movG l p q) (movF l p q) e w' := by
  have HC : Hid (∀ W, Below w.heap.size w W → Calls Try.prog 46 #[v] W fun e w' => e = .returned (.int .i64 (chkS l)) ∧ Below W.heap.size W w') := fun W h => zcheck_any l v W (hv.below h) ht
  have HL0 : Hid (∀ c, Below w.heap.size w (w.alloc c)) := fun c => (Below.refl _ w).alloc (Nat.le_refl _) _
  unfold AnsS
  by_cases h0 : chkS l = 0
  case neg =>
    have HE : Hid (movG l p q = [] ∧ movF l p q = chkS l) := ⟨by unfold movG movF; rw [if_neg h0, if_neg h0], by unfold movF; rw [if_neg h0]⟩
    rw [HE.out.1, HE.out.2]
    have hne : (chkS l != 0) = true := by simp [h0]
    clear h0 hv ht HE
    generalize chkS l = ce at *
    go_enter Try.func23, Try.ntmps23
    go_wp2_with fail
    refine (HC.out _ (HL0.out _)).mono ?_
    rintro e w1 ⟨rfl, hb⟩
    have H1 : Hid (Below w.heap.size w w1) := (HL0.out _).trans (hb.mono (HL0.out _).size)
    clear hb
    go_wp2
    go_ret2
    exact ⟨_, rfl, OwS.nil _ _, H1.out⟩
  case pos =>
    obtain ⟨hl, hcl⟩ := chkS_zero h0
    have hone := clp_ones l 0 hcl
    have hmay : ∀ s ∈ l, zMa s.r = true := fun s hs => (oneE_zero (hone s hs)).1
    obtain ⟨m1, m2⟩ := movO_clmp hmay p q
    have HE : Hid ((movO (clmp p) (clmp q) l = true → movF l p q = 0 ∧ movG l p q = l.map (movS (clmp p) (clmp q))) ∧ (movO (clmp p) (clmp q) l = false → movF l p q = 9 ∧ movG l p q = [])) := by
      have hF : movF l p q = if movO p q l = true then 0 else 9 := by unfold movF; rw [if_pos h0]
      refine ⟨fun h => ?_, fun h => ?_⟩
      · rw [m1] at h
        rw [h, if_pos rfl] at hF
        refine ⟨hF, ?_⟩
        unfold movG
        rw [if_pos hF, m2 h]
      · rw [m1] at h
        rw [h, if_neg (by simp)] at hF
        refine ⟨hF, ?_⟩
        unfold movG
        rw [if_neg (by rw [hF]; decide)]
    have hcx : -32769 ≤ clmp p ∧ clmp p ≤ 32769 := by unfold clmp; omega
    have hcy : -32769 ≤ clmp q ∧ clmp q ≤ 32769 := by unfold clmp; omega
    have HCP : Hid (min (max p (-32769)) 32769 = clmp p ∧ min (max q (-32769)) 32769 = clmp q) := ⟨rfl, rfl⟩
    generalize clmp p = cx at *
    generalize clmp q = cy at *
    rw [h0] at HC
    obtain ⟨E, hE⟩ : ∃ E, E = movF l p q := ⟨_, rfl⟩
    obtain ⟨G, hG⟩ : ∃ G, G = movG l p q := ⟨_, rfl⟩
    rw [← hE, ← hG] at HE ⊢
    clear h0 hE hG m1 m2
    obtain ⟨oa, cap, rfl, hc, hg⟩ := hv
    have HG : Hid (0 < l.length → ∃ g o, oa = some ⟨g, o, none⟩ ∧ g < w.heap.size ∧ ∀ i (h : i < l.length), StAt w g (o + i * 15) l[i]) := hg
    have HOn : Hid (∀ s ∈ l, zMa s.r = true) := hmay
    obtain ⟨j0, ki, kz0, kz1, kz2⟩ := info_parts info_strokeZ
    have A : Bk (w.alloc (.cells #[.int .i64 p, .int .i64 q] 23)) w.heap.size #[.int .i64 p, .int .i64 q] 23 := Bk.new _ _ _
    have HA0 : Hid (Bk (w.alloc (.cells #[.int .i64 p, .int .i64 q] 23)) w.heap.size #[.int .i64 p, .int .i64 q] 23) := A
    clear hg ht hcl hone hmay A
    go_enter Try.func23, Try.ntmps23
    go_wp2_with fail
    refine (HC.out _ (HL0.out _)).mono ?_
    rintro e w1 ⟨rfl, hb1⟩
    have H1 : Hid (Below w.heap.size w w1 ∧ Bk w1 w.heap.size #[.int .i64 p, .int .i64 q] 23) := ⟨(HL0.out _).trans (hb1.mono (HL0.out _).size), HA0.out.below hb1⟩
    clear hb1 HA0
    obtain ⟨c0, c1⟩ := H1.out.2.at2
    obtain ⟨p1, p2⟩ := hp
    obtain ⟨q1, q2⟩ := hq
    go_upto_region 4 with fail
    go_cut [7, 8] (fun s7 s8 wx => s7 = .int .i64 cx ∧ s8 = .int .i64 cy ∧ Hid (Below w.heap.size w wx))
    case first =>
      go_quiet (fail)
      go_wp2_with fail
      go_meet
      exact ⟨by rw [← HCP.out.1], by rw [← HCP.out.2], below_drewN H1.out.1⟩
    case rest =>
      obtain ⟨rfl, rfl, H2⟩ := hcut
      generalize wc = w2 at *
      clear H1 c0 c1 p1 p2 q1 q2 HCP HC
      have HMa : Hid (∀ (a : Rc) W, Calls Try.prog 47 #[.agg #[.int .i64 a.x, .int .i64 a.y, .int .i64 a.w, .int .i64 a.h]] W fun e w' => e = .returned (.bool (zMa a)) ∧ Below W.heap.size W w') := fun a W => rmay_any _ _ _ _ W
      obtain ⟨B, hB⟩ : ∃ B, B = w2.heap.size := ⟨_, rfl⟩
      have HB : Hid (B = w2.heap.size) := hB
      have HI0 : Hid (OwS B w2 (.slice none 0 0) ((l.take 0).map (movS cx cy)) ∧ (l.take 0).all (fun s => zMa (movS cx cy s).r) = true ∧ Below B w2 w2) := ⟨OwS.nil _ _, rfl, by rw [hB]; exact Below.refl _ _⟩
      clear hB
      go_wp2_with fail
      go_loopw [9, 10] (fun u i wr => ∃ k : Nat, i = .int .i64 k ∧ k ≤ l.length ∧ Hid (OwS B wr u ((l.take k).map (movS cx cy)) ∧ (l.take k).all (fun s => zMa (movS cx cy s).r) = true ∧ Below B w2 wr)) (fun _ i _ => l.length - (intOf i).toNat)
      case atStart => exact ⟨0, rfl, Nat.zero_le _, HI0⟩
      case round =>
        clear HI0
        obtain ⟨k, rfl, hk, HK⟩ := hrel
        by_cases hlt : k < l.length
        · have ik : (k : Int) < l.length := by omega
          obtain ⟨g, o, rfl, hg, hat⟩ := HG.out (by omega)
          have HBw : Hid (Below w.heap.size w wr ∧ B ≤ wr.heap.size) := by
            have h := HK.out.2.2
            rw [HB.out] at h ⊢
            exact ⟨H2.out.trans (h.mono H2.out.size), h.size⟩
          have hx := (hat k hlt).kept (w' := wr) fun j => HBw.out.1.cell (p := ⟨g, j, none⟩) hg
          have HX : Hid (∀ W, Below w.heap.size w W → StAt W g (o + k * 15) l[k]) := fun W h => (hat k hlt).kept fun j => h.cell (p := ⟨g, j, none⟩) hg
          have hm := HOn.out l[k] (List.getElem_mem hlt)
          have HT : Hid ((l.take (k + 1)).map (movS cx cy) = (l.take k).map (movS cx cy) ++ [movS cx cy l[k]] ∧ (l.take (k + 1)).all (fun s => zMa (movS cx cy s).r) = zMa (movS cx cy l[k]).r ∧ (zMa (movS cx cy l[k]).r = false → movO cx cy l = false)) := by
            refine ⟨by rw [← List.take_append_getElem hlt, List.map_append]; rfl, by rw [← List.take_append_getElem hlt, List.all_append, HK.out.2.1]; simp, fun h => ?_⟩
            unfold movO
            rw [List.all_eq_false]
            exact ⟨l[k], List.getElem_mem hlt, by rw [h]; simp⟩
          clear hat
          generalize l[k] = x at *
          obtain ⟨b1, b2, b3, b4, b5, b6, b7, b8⟩ := may_bd hm
          have hlk : Hid (((l.take k).map (movS cx cy)).length = k) := by unfold Hid; rw [List.length_map, List.length_take]; omega
          obtain ⟨x0, x1, x2, x3, x4, x5, x6, x7, x8, x9, x10, x11, x12, x13, x14⟩ := hx
          obtain ⟨bx, hbx⟩ : ∃ bx, bx = wr.heap.size := ⟨_, rfl⟩
          have HBX : Hid (bx = wr.heap.size) := hbx
          have hc3 : Hid (k + 1 ≤ maxLen) := by unfold Hid maxLen; omega
          have hc4 : Hid ((k + 1) * 72 ≤ 140737488355328) := by unfold Hid; omega
          -- what follows once the stroke lies moved in its box
          have HAP : Hid (∀ W, Below wr.heap.size wr W → OwS B W u9 ((l.take k).map (movS cx cy)) ∧ Below B w2 W ∧ B ≤ W.heap.size) := fun W h => ⟨HK.out.1.below h, HK.out.2.2.trans (h.mono HBw.out.2), Nat.le_trans HBw.out.2 h.size⟩
          by_cases h5 : x.k = 5
          · have hmv : movS cx cy x = x := by unfold movS; rw [if_pos h5]
            have HY : Hid ((⟨5, x.r, x.c, x.b, x.t, x.n⟩ : St) = x) := by unfold Hid; rw [← h5]
            have HT1 : Hid ((l.take (k + 1)).map (movS cx cy) = (l.take k).map (movS cx cy) ++ [x] ∧ (l.take (k + 1)).all (fun s => zMa (movS cx cy s).r) = true) := by
              have h := HT.out
              rw [hmv, hm] at h
              exact ⟨h.1, h.2.1⟩
            have HMx : Hid (∀ W, Calls Try.prog 47 #[.agg #[.int .i64 x.r.x, .int .i64 x.r.y, .int .i64 x.r.w, .int .i64 x.r.h]] W fun e w' => e = .returned (.bool true) ∧ Below W.heap.size W w') := fun W => by rw [← hm]; exact HMa.out x.r W
            have HB0 : Hid (Bk (wr.alloc (.cells (#[.int .u8 (⟨5, x.r, x.c, x.b, x.t, x.n⟩ : St).k, .int .i64 (⟨5, x.r, x.c, x.b, x.t, x.n⟩ : St).r.x, .int .i64 (⟨5, x.r, x.c, x.b, x.t, x.n⟩ : St).r.y, .int .i64 (⟨5, x.r, x.c, x.b, x.t, x.n⟩ : St).r.w, .int .i64 (⟨5, x.r, x.c, x.b, x.t, x.n⟩ : St).r.h, .int .u8 (⟨5, x.r, x.c, x.b, x.t, x.n⟩ : St).c.r, .int .u8 (⟨5, x.r, x.c, x.b, x.t, x.n⟩ : St).c.g, .int .u8 (⟨5, x.r, x.c, x.b, x.t, x.n⟩ : St).c.b, .int .u8 (⟨5, x.r, x.c, x.b, x.t, x.n⟩ : St).c.a, .int .u8 (⟨5, x.r, x.c, x.b, x.t, x.n⟩ : St).b.r, .int .u8 (⟨5, x.r, x.c, x.b, x.t, x.n⟩ : St).b.g, .int .u8 (⟨5, x.r, x.c, x.b, x.t, x.n⟩ : St).b.b, .int .u8 (⟨5, x.r, x.c, x.b, x.t, x.n⟩ : St).b.a, .string (⟨5, x.r, x.c, x.b, x.t, x.n⟩ : St).t, .int .i64 (⟨5, x.r, x.c, x.b, x.t, x.n⟩ : St).n]) 31)) bx (#[.int .u8 (⟨5, x.r, x.c, x.b, x.t, x.n⟩ : St).k, .int .i64 (⟨5, x.r, x.c, x.b, x.t, x.n⟩ : St).r.x, .int .i64 (⟨5, x.r, x.c, x.b, x.t, x.n⟩ : St).r.y, .int .i64 (⟨5, x.r, x.c, x.b, x.t, x.n⟩ : St).r.w, .int .i64 (⟨5, x.r, x.c, x.b, x.t, x.n⟩ : St).r.h, .int .u8 (⟨5, x.r, x.c, x.b, x.t, x.n⟩ : St).c.r, .int .u8 (⟨5, x.r, x.c, x.b, x.t, x.n⟩ : St).c.g, .int .u8 (⟨5, x.r, x.c, x.b, x.t, x.n⟩ : St).c.b, .int .u8 (⟨5, x.r, x.c, x.b, x.t, x.n⟩ : St).c.a, .int .u8 (⟨5, x.r, x.c, x.b, x.t, x.n⟩ : St).b.r, .int .u8 (⟨5, x.r, x.c, x.b, x.t, x.n⟩ : St).b.g, .int .u8 (⟨5, x.r, x.c, x.b, x.t, x.n⟩ : St).b.b, .int .u8 (⟨5, x.r, x.c, x.b, x.t, x.n⟩ : St).b.a, .string (⟨5, x.r, x.c, x.b, x.t, x.n⟩ : St).t, .int .i64 (⟨5, x.r, x.c, x.b, x.t, x.n⟩ : St).n]) 31 ∧ Below wr.heap.size wr (wr.alloc (.cells (#[.int .u8 (⟨5, x.r, x.c, x.b, x.t, x.n⟩ : St).k, .int .i64 (⟨5, x.r, x.c, x.b, x.t, x.n⟩ : St).r.x, .int .i64 (⟨5, x.r, x.c, x.b, x.t, x.n⟩ : St).r.y, .int .i64 (⟨5, x.r, x.c, x.b, x.t, x.n⟩ : St).r.w, .int .i64 (⟨5, x.r, x.c, x.b, x.t, x.n⟩ : St).r.h, .int .u8 (⟨5, x.r, x.c, x.b, x.t, x.n⟩ : St).c.r, .int .u8 (⟨5, x.r, x.c, x.b, x.t, x.n⟩ : St).c.g, .int .u8 (⟨5, x.r, x.c, x.b, x.t, x.n⟩ : St).c.b, .int .u8 (⟨5, x.r, x.c, x.b, x.t, x.n⟩ : St).c.a, .int .u8 (⟨5, x.r, x.c, x.b, x.t, x.n⟩ : St).b.r, .int .u8 (⟨5, x.r, x.c, x.b, x.t, x.n⟩ : St).b.g, .int .u8 (⟨5, x.r, x.c, x.b, x.t, x.n⟩ : St).b.b, .int .u8 (⟨5, x.r, x.c, x.b, x.t, x.n⟩ : St).b.a, .string (⟨5, x.r, x.c, x.b, x.t, x.n⟩ : St).t, .int .i64 (⟨5, x.r, x.c, x.b, x.t, x.n⟩ : St).n]) 31))) := ⟨by rw [hbx]; exact Bk.new _ _ _, (Below.refl _ _).alloc (Nat.le_refl _) _⟩
            clear hmv hm HT
            go_upto_region 12 with fail
            rw [← hbx]
            clear hbx
            generalize wr.alloc (.cells (#[.int .u8 (⟨5, x.r, x.c, x.b, x.t, x.n⟩ : St).k, .int .i64 (⟨5, x.r, x.c, x.b, x.t, x.n⟩ : St).r.x, .int .i64 (⟨5, x.r, x.c, x.b, x.t, x.n⟩ : St).r.y, .int .i64 (⟨5, x.r, x.c, x.b, x.t, x.n⟩ : St).r.w, .int .i64 (⟨5, x.r, x.c, x.b, x.t, x.n⟩ : St).r.h, .int .u8 (⟨5, x.r, x.c, x.b, x.t, x.n⟩ : St).c.r, .int .u8 (⟨5, x.r, x.c, x.b, x.t, x.n⟩ : St).c.g, .int .u8 (⟨5, x.r, x.c, x.b, x.t, x.n⟩ : St).c.b, .int .u8 (⟨5, x.r, x.c, x.b, x.t, x.n⟩ : St).c.a, .int .u8 (⟨5, x.r, x.c, x.b, x.t, x.n⟩ : St).b.r, .int .u8 (⟨5, x.r, x.c, x.b, x.t, x.n⟩ : St).b.g, .int .u8 (⟨5, x.r, x.c, x.b, x.t, x.n⟩ : St).b.b, .int .u8 (⟨5, x.r, x.c, x.b, x.t, x.n⟩ : St).b.a, .string (⟨5, x.r, x.c, x.b, x.t, x.n⟩ : St).t, .int .i64 (⟨5, x.r, x.c, x.b, x.t, x.n⟩ : St).n]) 31) = W0 at *
            clear x0 x1 x2 x3 x4 x5 x6 x7 x8 x9 x10 x11 x12 x13 x14
            have cc := HB0.out.1.cell
            have r1 := cc 1
            have r2 := cc 2
            have r3 := cc 3
            have r4 := cc 4
            clear cc
            simp only [List.getElem?_toArray, List.getElem?_cons_zero, List.getElem?_cons_succ] at r1 r2 r3 r4
            go_wp2_with fail
            refine (HMx.out _).mono ?_
            rintro e w3 ⟨rfl, hb3⟩
            have H3 : Hid (Bk w3 bx (#[.int .u8 (⟨5, x.r, x.c, x.b, x.t, x.n⟩ : St).k, .int .i64 (⟨5, x.r, x.c, x.b, x.t, x.n⟩ : St).r.x, .int .i64 (⟨5, x.r, x.c, x.b, x.t, x.n⟩ : St).r.y, .int .i64 (⟨5, x.r, x.c, x.b, x.t, x.n⟩ : St).r.w, .int .i64 (⟨5, x.r, x.c, x.b, x.t, x.n⟩ : St).r.h, .int .u8 (⟨5, x.r, x.c, x.b, x.t, x.n⟩ : St).c.r, .int .u8 (⟨5, x.r, x.c, x.b, x.t, x.n⟩ : St).c.g, .int .u8 (⟨5, x.r, x.c, x.b, x.t, x.n⟩ : St).c.b, .int .u8 (⟨5, x.r, x.c, x.b, x.t, x.n⟩ : St).c.a, .int .u8 (⟨5, x.r, x.c, x.b, x.t, x.n⟩ : St).b.r, .int .u8 (⟨5, x.r, x.c, x.b, x.t, x.n⟩ : St).b.g, .int .u8 (⟨5, x.r, x.c, x.b, x.t, x.n⟩ : St).b.b, .int .u8 (⟨5, x.r, x.c, x.b, x.t, x.n⟩ : St).b.a, .string (⟨5, x.r, x.c, x.b, x.t, x.n⟩ : St).t, .int .i64 (⟨5, x.r, x.c, x.b, x.t, x.n⟩ : St).n]) 31 ∧ Below wr.heap.size wr w3) := ⟨HB0.out.1.below hb3, HB0.out.2.trans (hb3.mono HB0.out.2.size)⟩
            clear hb3 r1 r2 r3 r4 HB0
            have cc := H3.out.1.cell
            have a0 := cc 0
            have a1 := cc 1
            have a2 := cc 2
            have a3 := cc 3
            have a4 := cc 4
            have a5 := cc 5
            have a6 := cc 6
            have a7 := cc 7
            have a8 := cc 8
            have a9 := cc 9
            have a10 := cc 10
            have a11 := cc 11
            have a12 := cc 12
            have a13 := cc 13
            have a14 := cc 14
            clear cc
            simp only [List.getElem?_toArray, List.getElem?_cons_zero, List.getElem?_cons_succ] at a0 a1 a2 a3 a4 a5 a6 a7 a8 a9 a10 a11 a12 a13 a14
            obtain ⟨F, hF⟩ : ∃ F, F = (l.take k).map (movS cx cy) := ⟨_, rfl⟩
            have HFk : Hid (F = (l.take k).map (movS cx cy) ∧ k = F.length) := ⟨hF, by rw [hF]; exact hlk.out.symm⟩
            have HA : Hid (∀ o, (w3.alloc o).ownsRow B 31 15 u9 k (flatZ F) ∧ B ≤ (w3.alloc o).heap.size) := fun o => by
              obtain ⟨h, _, h3⟩ := HAP.out _ H3.out.2
              unfold OwS at h
              rw [hlk.out, ← hF] at h
              exact ⟨row_below h ((Below.refl _ _).alloc (Nat.le_refl _) _), by simp; omega⟩
            clear hF
            go_wp2_with (at_builtin; refine wpList_append_lies _ rfl _ _ 36 rfl B 31 j0 (.agg #[.int .u8 0, .int .i64 0, .int .i64 0, .int .i64 0, .int .i64 0, .int .u8 0, .int .u8 0, .int .u8 0, .int .u8 0, .int .u8 0, .int .u8 0, .int .u8 0, .int .u8 0, .string ByteArray.empty, .int .i64 0]) 15 72 Try.underlying36 ki kz0 kz1 kz2 rfl (by decide) u9 k (flatZ F) rfl (HA.out _).1 _ 1 1 (sCel (⟨5, x.r, x.c, x.b, x.t, x.n⟩ : St)) rfl rfl (cell_strokeB _ (⟨5, x.r, x.c, x.b, x.t, x.n⟩ : St) _ _ rfl) (oneZ (⟨5, x.r, x.c, x.b, x.t, x.n⟩ : St)) (by decide) hc3.out hc4.out (HA.out _).2 _ rfl ?_)
            intro g4 cap4 w6 hown' hgrow hlies hg4
            have HRel : Hid (OwS B w6 (.slice (some ⟨g4, 0, none⟩) (k + 1) cap4) ((l.take (k + 1)).map (movS cx cy)) ∧ (l.take (k + 1)).all (fun s => zMa (movS cx cy s).r) = true ∧ Below B w2 w6) := by
              obtain ⟨_, h2, h3⟩ := HAP.out _ H3.out.2
              have b3 : Below B w2 (w3.alloc (.cells (#[.int .u8 (⟨5, x.r, x.c, x.b, x.t, x.n⟩ : St).k, .int .i64 (⟨5, x.r, x.c, x.b, x.t, x.n⟩ : St).r.x, .int .i64 (⟨5, x.r, x.c, x.b, x.t, x.n⟩ : St).r.y, .int .i64 (⟨5, x.r, x.c, x.b, x.t, x.n⟩ : St).r.w, .int .i64 (⟨5, x.r, x.c, x.b, x.t, x.n⟩ : St).r.h, .int .u8 (⟨5, x.r, x.c, x.b, x.t, x.n⟩ : St).c.r, .int .u8 (⟨5, x.r, x.c, x.b, x.t, x.n⟩ : St).c.g, .int .u8 (⟨5, x.r, x.c, x.b, x.t, x.n⟩ : St).c.b, .int .u8 (⟨5, x.r, x.c, x.b, x.t, x.n⟩ : St).c.a, .int .u8 (⟨5, x.r, x.c, x.b, x.t, x.n⟩ : St).b.r, .int .u8 (⟨5, x.r, x.c, x.b, x.t, x.n⟩ : St).b.g, .int .u8 (⟨5, x.r, x.c, x.b, x.t, x.n⟩ : St).b.b, .int .u8 (⟨5, x.r, x.c, x.b, x.t, x.n⟩ : St).b.a, .string (⟨5, x.r, x.c, x.b, x.t, x.n⟩ : St).t, .int .i64 (⟨5, x.r, x.c, x.b, x.t, x.n⟩ : St).n]) 31)) := h2.alloc h3 _
              have b4 : Below B w2 w6 := b3.grown hgrow (HA.out _).2 (fun g hg => (row_lt (HA.out (.cells (#[.int .u8 (⟨5, x.r, x.c, x.b, x.t, x.n⟩ : St).k, .int .i64 (⟨5, x.r, x.c, x.b, x.t, x.n⟩ : St).r.x, .int .i64 (⟨5, x.r, x.c, x.b, x.t, x.n⟩ : St).r.y, .int .i64 (⟨5, x.r, x.c, x.b, x.t, x.n⟩ : St).r.w, .int .i64 (⟨5, x.r, x.c, x.b, x.t, x.n⟩ : St).r.h, .int .u8 (⟨5, x.r, x.c, x.b, x.t, x.n⟩ : St).c.r, .int .u8 (⟨5, x.r, x.c, x.b, x.t, x.n⟩ : St).c.g, .int .u8 (⟨5, x.r, x.c, x.b, x.t, x.n⟩ : St).c.b, .int .u8 (⟨5, x.r, x.c, x.b, x.t, x.n⟩ : St).c.a, .int .u8 (⟨5, x.r, x.c, x.b, x.t, x.n⟩ : St).b.r, .int .u8 (⟨5, x.r, x.c, x.b, x.t, x.n⟩ : St).b.g, .int .u8 (⟨5, x.r, x.c, x.b, x.t, x.n⟩ : St).b.b, .int .u8 (⟨5, x.r, x.c, x.b, x.t, x.n⟩ : St).b.a, .string (⟨5, x.r, x.c, x.b, x.t, x.n⟩ : St).t, .int .i64 (⟨5, x.r, x.c, x.b, x.t, x.n⟩ : St).n]) 31)).1 g hg).1)
              refine ⟨?_, HT1.out.2, b4⟩
              rw [HT1.out.1, ← HFk.out.1, ← HY.out]
              exact snocS HFk.out.2 hown'
            clear hown' hgrow hlies hg4 HA HAP H3 HK a0 a1 a2 a3 a4 a5 a6 a7 a8 a9 a10 a11 a12 a13 a14
            go_wp2
            go_roundw
            case rel => exact ⟨k + 1, by go_num, by omega, HRel⟩
            case measure => simp [intOf]; omega
          · have h5' : (x.k == 5) = false := beq_eq_false_iff_ne.2 h5
            have hmv : movS cx cy x = (⟨x.k, ⟨x.r.x + cx, x.r.y + cy, x.r.w, x.r.h⟩, x.c, x.b, x.t, x.n⟩ : St) := by unfold movS; rw [if_neg h5]
            have HY : Hid ((⟨x.k, ⟨x.r.x + cx, x.r.y + cy, x.r.w, x.r.h⟩, x.c, x.b, x.t, x.n⟩ : St) = movS cx cy x) := hmv.symm
            have HB0 : Hid (Bk (wr.alloc (.cells (#[.int .u8 (⟨x.k, ⟨x.r.x + cx, x.r.y + cy, x.r.w, x.r.h⟩, x.c, x.b, x.t, x.n⟩ : St).k, .int .i64 (⟨x.k, ⟨x.r.x + cx, x.r.y + cy, x.r.w, x.r.h⟩, x.c, x.b, x.t, x.n⟩ : St).r.x, .int .i64 (⟨x.k, ⟨x.r.x + cx, x.r.y + cy, x.r.w, x.r.h⟩, x.c, x.b, x.t, x.n⟩ : St).r.y, .int .i64 (⟨x.k, ⟨x.r.x + cx, x.r.y + cy, x.r.w, x.r.h⟩, x.c, x.b, x.t, x.n⟩ : St).r.w, .int .i64 (⟨x.k, ⟨x.r.x + cx, x.r.y + cy, x.r.w, x.r.h⟩, x.c, x.b, x.t, x.n⟩ : St).r.h, .int .u8 (⟨x.k, ⟨x.r.x + cx, x.r.y + cy, x.r.w, x.r.h⟩, x.c, x.b, x.t, x.n⟩ : St).c.r, .int .u8 (⟨x.k, ⟨x.r.x + cx, x.r.y + cy, x.r.w, x.r.h⟩, x.c, x.b, x.t, x.n⟩ : St).c.g, .int .u8 (⟨x.k, ⟨x.r.x + cx, x.r.y + cy, x.r.w, x.r.h⟩, x.c, x.b, x.t, x.n⟩ : St).c.b, .int .u8 (⟨x.k, ⟨x.r.x + cx, x.r.y + cy, x.r.w, x.r.h⟩, x.c, x.b, x.t, x.n⟩ : St).c.a, .int .u8 (⟨x.k, ⟨x.r.x + cx, x.r.y + cy, x.r.w, x.r.h⟩, x.c, x.b, x.t, x.n⟩ : St).b.r, .int .u8 (⟨x.k, ⟨x.r.x + cx, x.r.y + cy, x.r.w, x.r.h⟩, x.c, x.b, x.t, x.n⟩ : St).b.g, .int .u8 (⟨x.k, ⟨x.r.x + cx, x.r.y + cy, x.r.w, x.r.h⟩, x.c, x.b, x.t, x.n⟩ : St).b.b, .int .u8 (⟨x.k, ⟨x.r.x + cx, x.r.y + cy, x.r.w, x.r.h⟩, x.c, x.b, x.t, x.n⟩ : St).b.a, .string (⟨x.k, ⟨x.r.x + cx, x.r.y + cy, x.r.w, x.r.h⟩, x.c, x.b, x.t, x.n⟩ : St).t, .int .i64 (⟨x.k, ⟨x.r.x + cx, x.r.y + cy, x.r.w, x.r.h⟩, x.c, x.b, x.t, x.n⟩ : St).n]) 31)) bx (#[.int .u8 (⟨x.k, ⟨x.r.x + cx, x.r.y + cy, x.r.w, x.r.h⟩, x.c, x.b, x.t, x.n⟩ : St).k, .int .i64 (⟨x.k, ⟨x.r.x + cx, x.r.y + cy, x.r.w, x.r.h⟩, x.c, x.b, x.t, x.n⟩ : St).r.x, .int .i64 (⟨x.k, ⟨x.r.x + cx, x.r.y + cy, x.r.w, x.r.h⟩, x.c, x.b, x.t, x.n⟩ : St).r.y, .int .i64 (⟨x.k, ⟨x.r.x + cx, x.r.y + cy, x.r.w, x.r.h⟩, x.c, x.b, x.t, x.n⟩ : St).r.w, .int .i64 (⟨x.k, ⟨x.r.x + cx, x.r.y + cy, x.r.w, x.r.h⟩, x.c, x.b, x.t, x.n⟩ : St).r.h, .int .u8 (⟨x.k, ⟨x.r.x + cx, x.r.y + cy, x.r.w, x.r.h⟩, x.c, x.b, x.t, x.n⟩ : St).c.r, .int .u8 (⟨x.k, ⟨x.r.x + cx, x.r.y + cy, x.r.w, x.r.h⟩, x.c, x.b, x.t, x.n⟩ : St).c.g, .int .u8 (⟨x.k, ⟨x.r.x + cx, x.r.y + cy, x.r.w, x.r.h⟩, x.c, x.b, x.t, x.n⟩ : St).c.b, .int .u8 (⟨x.k, ⟨x.r.x + cx, x.r.y + cy, x.r.w, x.r.h⟩, x.c, x.b, x.t, x.n⟩ : St).c.a, .int .u8 (⟨x.k, ⟨x.r.x + cx, x.r.y + cy, x.r.w, x.r.h⟩, x.c, x.b, x.t, x.n⟩ : St).b.r, .int .u8 (⟨x.k, ⟨x.r.x + cx, x.r.y + cy, x.r.w, x.r.h⟩, x.c, x.b, x.t, x.n⟩ : St).b.g, .int .u8 (⟨x.k, ⟨x.r.x + cx, x.r.y + cy, x.r.w, x.r.h⟩, x.c, x.b, x.t, x.n⟩ : St).b.b, .int .u8 (⟨x.k, ⟨x.r.x + cx, x.r.y + cy, x.r.w, x.r.h⟩, x.c, x.b, x.t, x.n⟩ : St).b.a, .string (⟨x.k, ⟨x.r.x + cx, x.r.y + cy, x.r.w, x.r.h⟩, x.c, x.b, x.t, x.n⟩ : St).t, .int .i64 (⟨x.k, ⟨x.r.x + cx, x.r.y + cy, x.r.w, x.r.h⟩, x.c, x.b, x.t, x.n⟩ : St).n]) 31 ∧ Below wr.heap.size wr (wr.alloc (.cells (#[.int .u8 (⟨x.k, ⟨x.r.x + cx, x.r.y + cy, x.r.w, x.r.h⟩, x.c, x.b, x.t, x.n⟩ : St).k, .int .i64 (⟨x.k, ⟨x.r.x + cx, x.r.y + cy, x.r.w, x.r.h⟩, x.c, x.b, x.t, x.n⟩ : St).r.x, .int .i64 (⟨x.k, ⟨x.r.x + cx, x.r.y + cy, x.r.w, x.r.h⟩, x.c, x.b, x.t, x.n⟩ : St).r.y, .int .i64 (⟨x.k, ⟨x.r.x + cx, x.r.y + cy, x.r.w, x.r.h⟩, x.c, x.b, x.t, x.n⟩ : St).r.w, .int .i64 (⟨x.k, ⟨x.r.x + cx, x.r.y + cy, x.r.w, x.r.h⟩, x.c, x.b, x.t, x.n⟩ : St).r.h, .int .u8 (⟨x.k, ⟨x.r.x + cx, x.r.y + cy, x.r.w, x.r.h⟩, x.c, x.b, x.t, x.n⟩ : St).c.r, .int .u8 (⟨x.k, ⟨x.r.x + cx, x.r.y + cy, x.r.w, x.r.h⟩, x.c, x.b, x.t, x.n⟩ : St).c.g, .int .u8 (⟨x.k, ⟨x.r.x + cx, x.r.y + cy, x.r.w, x.r.h⟩, x.c, x.b, x.t, x.n⟩ : St).c.b, .int .u8 (⟨x.k, ⟨x.r.x + cx, x.r.y + cy, x.r.w, x.r.h⟩, x.c, x.b, x.t, x.n⟩ : St).c.a, .int .u8 (⟨x.k, ⟨x.r.x + cx, x.r.y + cy, x.r.w, x.r.h⟩, x.c, x.b, x.t, x.n⟩ : St).b.r, .int .u8 (⟨x.k, ⟨x.r.x + cx, x.r.y + cy, x.r.w, x.r.h⟩, x.c, x.b, x.t, x.n⟩ : St).b.g, .int .u8 (⟨x.k, ⟨x.r.x + cx, x.r.y + cy, x.r.w, x.r.h⟩, x.c, x.b, x.t, x.n⟩ : St).b.b, .int .u8 (⟨x.k, ⟨x.r.x + cx, x.r.y + cy, x.r.w, x.r.h⟩, x.c, x.b, x.t, x.n⟩ : St).b.a, .string (⟨x.k, ⟨x.r.x + cx, x.r.y + cy, x.r.w, x.r.h⟩, x.c, x.b, x.t, x.n⟩ : St).t, .int .i64 (⟨x.k, ⟨x.r.x + cx, x.r.y + cy, x.r.w, x.r.h⟩, x.c, x.b, x.t, x.n⟩ : St).n]) 31))) := ⟨by rw [hbx]; exact Bk.new _ _ _, (Below.refl _ _).alloc (Nat.le_refl _) _⟩
            obtain ⟨mb, hmb⟩ : ∃ mb, zMa (movS cx cy x).r = mb := ⟨_, rfl⟩
            have HMx : Hid (∀ W, Calls Try.prog 47 #[.agg #[.int .i64 (x.r.x + cx), .int .i64 (x.r.y + cy), .int .i64 x.r.w, .int .i64 x.r.h]] W fun e w' => e = .returned (.bool mb) ∧ Below W.heap.size W w') := fun W => by rw [← hmb, hmv]; exact HMa.out ⟨x.r.x + cx, x.r.y + cy, x.r.w, x.r.h⟩ W
            rw [hmb] at HT
            clear hmv hm hmb h5
            cases mb with
            | false =>
              have HEE : Hid (E = 9 ∧ G = []) := HE.out.2 (HT.out.2.2 (by first | rfl | trivial))
              go_upto_region 12 with fail
              rw [← hbx]
              clear hbx
              generalize wr.alloc (.cells (#[.int .u8 (⟨x.k, ⟨x.r.x + cx, x.r.y + cy, x.r.w, x.r.h⟩, x.c, x.b, x.t, x.n⟩ : St).k, .int .i64 (⟨x.k, ⟨x.r.x + cx, x.r.y + cy, x.r.w, x.r.h⟩, x.c, x.b, x.t, x.n⟩ : St).r.x, .int .i64 (⟨x.k, ⟨x.r.x + cx, x.r.y + cy, x.r.w, x.r.h⟩, x.c, x.b, x.t, x.n⟩ : St).r.y, .int .i64 (⟨x.k, ⟨x.r.x + cx, x.r.y + cy, x.r.w, x.r.h⟩, x.c, x.b, x.t, x.n⟩ : St).r.w, .int .i64 (⟨x.k, ⟨x.r.x + cx, x.r.y + cy, x.r.w, x.r.h⟩, x.c, x.b, x.t, x.n⟩ : St).r.h, .int .u8 (⟨x.k, ⟨x.r.x + cx, x.r.y + cy, x.r.w, x.r.h⟩, x.c, x.b, x.t, x.n⟩ : St).c.r, .int .u8 (⟨x.k, ⟨x.r.x + cx, x.r.y + cy, x.r.w, x.r.h⟩, x.c, x.b, x.t, x.n⟩ : St).c.g, .int .u8 (⟨x.k, ⟨x.r.x + cx, x.r.y + cy, x.r.w, x.r.h⟩, x.c, x.b, x.t, x.n⟩ : St).c.b, .int .u8 (⟨x.k, ⟨x.r.x + cx, x.r.y + cy, x.r.w, x.r.h⟩, x.c, x.b, x.t, x.n⟩ : St).c.a, .int .u8 (⟨x.k, ⟨x.r.x + cx, x.r.y + cy, x.r.w, x.r.h⟩, x.c, x.b, x.t, x.n⟩ : St).b.r, .int .u8 (⟨x.k, ⟨x.r.x + cx, x.r.y + cy, x.r.w, x.r.h⟩, x.c, x.b, x.t, x.n⟩ : St).b.g, .int .u8 (⟨x.k, ⟨x.r.x + cx, x.r.y + cy, x.r.w, x.r.h⟩, x.c, x.b, x.t, x.n⟩ : St).b.b, .int .u8 (⟨x.k, ⟨x.r.x + cx, x.r.y + cy, x.r.w, x.r.h⟩, x.c, x.b, x.t, x.n⟩ : St).b.a, .string (⟨x.k, ⟨x.r.x + cx, x.r.y + cy, x.r.w, x.r.h⟩, x.c, x.b, x.t, x.n⟩ : St).t, .int .i64 (⟨x.k, ⟨x.r.x + cx, x.r.y + cy, x.r.w, x.r.h⟩, x.c, x.b, x.t, x.n⟩ : St).n]) 31) = W0 at *
              clear x0 x1 x2 x3 x4 x5 x6 x7 x8 x9 x10 x11 x12 x13 x14
              have cc := HB0.out.1.cell
              have r1 := cc 1
              have r2 := cc 2
              have r3 := cc 3
              have r4 := cc 4
              clear cc
              simp only [List.getElem?_toArray, List.getElem?_cons_zero, List.getElem?_cons_succ] at r1 r2 r3 r4
              go_wp2_with fail
              refine (HMx.out _).mono ?_
              rintro e w3 ⟨rfl, hb3⟩
              have H3 : Hid (Below w.heap.size w w3) := by
                have b1 : Below wr.heap.size wr w3 := HB0.out.2.trans (hb3.mono HB0.out.2.size)
                exact HBw.out.1.trans (b1.mono HBw.out.1.size)
              clear hb3 r1 r2 r3 r4 HB0
              go_wp2
              go_ret2
              refine ⟨.slice none 0 0, ?_, ?_⟩
              · rw [HEE.out.1]
                rfl
              · rw [HEE.out.2]
                exact ⟨OwS.nil _ _, H3.out⟩
            | true =>
              have HT1 : Hid ((l.take (k + 1)).map (movS cx cy) = (l.take k).map (movS cx cy) ++ [movS cx cy x] ∧ (l.take (k + 1)).all (fun s => zMa (movS cx cy s).r) = true) := ⟨HT.out.1, HT.out.2.1⟩
              clear HT
              go_upto_region 12 with fail
              rw [← hbx]
              clear hbx
              generalize wr.alloc (.cells (#[.int .u8 (⟨x.k, ⟨x.r.x + cx, x.r.y + cy, x.r.w, x.r.h⟩, x.c, x.b, x.t, x.n⟩ : St).k, .int .i64 (⟨x.k, ⟨x.r.x + cx, x.r.y + cy, x.r.w, x.r.h⟩, x.c, x.b, x.t, x.n⟩ : St).r.x, .int .i64 (⟨x.k, ⟨x.r.x + cx, x.r.y + cy, x.r.w, x.r.h⟩, x.c, x.b, x.t, x.n⟩ : St).r.y, .int .i64 (⟨x.k, ⟨x.r.x + cx, x.r.y + cy, x.r.w, x.r.h⟩, x.c, x.b, x.t, x.n⟩ : St).r.w, .int .i64 (⟨x.k, ⟨x.r.x + cx, x.r.y + cy, x.r.w, x.r.h⟩, x.c, x.b, x.t, x.n⟩ : St).r.h, .int .u8 (⟨x.k, ⟨x.r.x + cx, x.r.y + cy, x.r.w, x.r.h⟩, x.c, x.b, x.t, x.n⟩ : St).c.r, .int .u8 (⟨x.k, ⟨x.r.x + cx, x.r.y + cy, x.r.w, x.r.h⟩, x.c, x.b, x.t, x.n⟩ : St).c.g, .int .u8 (⟨x.k, ⟨x.r.x + cx, x.r.y + cy, x.r.w, x.r.h⟩, x.c, x.b, x.t, x.n⟩ : St).c.b, .int .u8 (⟨x.k, ⟨x.r.x + cx, x.r.y + cy, x.r.w, x.r.h⟩, x.c, x.b, x.t, x.n⟩ : St).c.a, .int .u8 (⟨x.k, ⟨x.r.x + cx, x.r.y + cy, x.r.w, x.r.h⟩, x.c, x.b, x.t, x.n⟩ : St).b.r, .int .u8 (⟨x.k, ⟨x.r.x + cx, x.r.y + cy, x.r.w, x.r.h⟩, x.c, x.b, x.t, x.n⟩ : St).b.g, .int .u8 (⟨x.k, ⟨x.r.x + cx, x.r.y + cy, x.r.w, x.r.h⟩, x.c, x.b, x.t, x.n⟩ : St).b.b, .int .u8 (⟨x.k, ⟨x.r.x + cx, x.r.y + cy, x.r.w, x.r.h⟩, x.c, x.b, x.t, x.n⟩ : St).b.a, .string (⟨x.k, ⟨x.r.x + cx, x.r.y + cy, x.r.w, x.r.h⟩, x.c, x.b, x.t, x.n⟩ : St).t, .int .i64 (⟨x.k, ⟨x.r.x + cx, x.r.y + cy, x.r.w, x.r.h⟩, x.c, x.b, x.t, x.n⟩ : St).n]) 31) = W0 at *
              clear x0 x1 x2 x3 x4 x5 x6 x7 x8 x9 x10 x11 x12 x13 x14
              have cc := HB0.out.1.cell
              have r1 := cc 1
              have r2 := cc 2
              have r3 := cc 3
              have r4 := cc 4
              clear cc
              simp only [List.getElem?_toArray, List.getElem?_cons_zero, List.getElem?_cons_succ] at r1 r2 r3 r4
              go_wp2_with fail
              refine (HMx.out _).mono ?_
              rintro e w3 ⟨rfl, hb3⟩
              have H3 : Hid (Bk w3 bx (#[.int .u8 (⟨x.k, ⟨x.r.x + cx, x.r.y + cy, x.r.w, x.r.h⟩, x.c, x.b, x.t, x.n⟩ : St).k, .int .i64 (⟨x.k, ⟨x.r.x + cx, x.r.y + cy, x.r.w, x.r.h⟩, x.c, x.b, x.t, x.n⟩ : St).r.x, .int .i64 (⟨x.k, ⟨x.r.x + cx, x.r.y + cy, x.r.w, x.r.h⟩, x.c, x.b, x.t, x.n⟩ : St).r.y, .int .i64 (⟨x.k, ⟨x.r.x + cx, x.r.y + cy, x.r.w, x.r.h⟩, x.c, x.b, x.t, x.n⟩ : St).r.w, .int .i64 (⟨x.k, ⟨x.r.x + cx, x.r.y + cy, x.r.w, x.r.h⟩, x.c, x.b, x.t, x.n⟩ : St).r.h, .int .u8 (⟨x.k, ⟨x.r.x + cx, x.r.y + cy, x.r.w, x.r.h⟩, x.c, x.b, x.t, x.n⟩ : St).c.r, .int .u8 (⟨x.k, ⟨x.r.x + cx, x.r.y + cy, x.r.w, x.r.h⟩, x.c, x.b, x.t, x.n⟩ : St).c.g, .int .u8 (⟨x.k, ⟨x.r.x + cx, x.r.y + cy, x.r.w, x.r.h⟩, x.c, x.b, x.t, x.n⟩ : St).c.b, .int .u8 (⟨x.k, ⟨x.r.x + cx, x.r.y + cy, x.r.w, x.r.h⟩, x.c, x.b, x.t, x.n⟩ : St).c.a, .int .u8 (⟨x.k, ⟨x.r.x + cx, x.r.y + cy, x.r.w, x.r.h⟩, x.c, x.b, x.t, x.n⟩ : St).b.r, .int .u8 (⟨x.k, ⟨x.r.x + cx, x.r.y + cy, x.r.w, x.r.h⟩, x.c, x.b, x.t, x.n⟩ : St).b.g, .int .u8 (⟨x.k, ⟨x.r.x + cx, x.r.y + cy, x.r.w, x.r.h⟩, x.c, x.b, x.t, x.n⟩ : St).b.b, .int .u8 (⟨x.k, ⟨x.r.x + cx, x.r.y + cy, x.r.w, x.r.h⟩, x.c, x.b, x.t, x.n⟩ : St).b.a, .string (⟨x.k, ⟨x.r.x + cx, x.r.y + cy, x.r.w, x.r.h⟩, x.c, x.b, x.t, x.n⟩ : St).t, .int .i64 (⟨x.k, ⟨x.r.x + cx, x.r.y + cy, x.r.w, x.r.h⟩, x.c, x.b, x.t, x.n⟩ : St).n]) 31 ∧ Below wr.heap.size wr w3) := ⟨HB0.out.1.below hb3, HB0.out.2.trans (hb3.mono HB0.out.2.size)⟩
              clear hb3 r1 r2 r3 r4 HB0
              have cc := H3.out.1.cell
              have a0 := cc 0
              have a1 := cc 1
              have a2 := cc 2
              have a3 := cc 3
              have a4 := cc 4
              have a5 := cc 5
              have a6 := cc 6
              have a7 := cc 7
              have a8 := cc 8
              have a9 := cc 9
              have a10 := cc 10
              have a11 := cc 11
              have a12 := cc 12
              have a13 := cc 13
              have a14 := cc 14
              clear cc
              simp only [List.getElem?_toArray, List.getElem?_cons_zero, List.getElem?_cons_succ] at a0 a1 a2 a3 a4 a5 a6 a7 a8 a9 a10 a11 a12 a13 a14
              obtain ⟨F, hF⟩ : ∃ F, F = (l.take k).map (movS cx cy) := ⟨_, rfl⟩
              have HFk : Hid (F = (l.take k).map (movS cx cy) ∧ k = F.length) := ⟨hF, by rw [hF]; exact hlk.out.symm⟩
              have HA : Hid (∀ o, (w3.alloc o).ownsRow B 31 15 u9 k (flatZ F) ∧ B ≤ (w3.alloc o).heap.size) := fun o => by
                obtain ⟨h, _, h3⟩ := HAP.out _ H3.out.2
                unfold OwS at h
                rw [hlk.out, ← hF] at h
                exact ⟨row_below h ((Below.refl _ _).alloc (Nat.le_refl _) _), by simp; omega⟩
              clear hF
              go_wp2_with (at_builtin; refine wpList_append_lies _ rfl _ _ 36 rfl B 31 j0 (.agg #[.int .u8 0, .int .i64 0, .int .i64 0, .int .i64 0, .int .i64 0, .int .u8 0, .int .u8 0, .int .u8 0, .int .u8 0, .int .u8 0, .int .u8 0, .int .u8 0, .int .u8 0, .string ByteArray.empty, .int .i64 0]) 15 72 Try.underlying36 ki kz0 kz1 kz2 rfl (by decide) u9 k (flatZ F) rfl (HA.out _).1 _ 1 1 (sCel (⟨x.k, ⟨x.r.x + cx, x.r.y + cy, x.r.w, x.r.h⟩, x.c, x.b, x.t, x.n⟩ : St)) rfl rfl (cell_strokeB _ (⟨x.k, ⟨x.r.x + cx, x.r.y + cy, x.r.w, x.r.h⟩, x.c, x.b, x.t, x.n⟩ : St) _ _ rfl) (oneZ (⟨x.k, ⟨x.r.x + cx, x.r.y + cy, x.r.w, x.r.h⟩, x.c, x.b, x.t, x.n⟩ : St)) (by decide) hc3.out hc4.out (HA.out _).2 _ rfl ?_)
              intro g4 cap4 w6 hown' hgrow hlies hg4
              have HRel : Hid (OwS B w6 (.slice (some ⟨g4, 0, none⟩) (k + 1) cap4) ((l.take (k + 1)).map (movS cx cy)) ∧ (l.take (k + 1)).all (fun s => zMa (movS cx cy s).r) = true ∧ Below B w2 w6) := by
                obtain ⟨_, h2, h3⟩ := HAP.out _ H3.out.2
                have b3 : Below B w2 (w3.alloc (.cells (#[.int .u8 (⟨x.k, ⟨x.r.x + cx, x.r.y + cy, x.r.w, x.r.h⟩, x.c, x.b, x.t, x.n⟩ : St).k, .int .i64 (⟨x.k, ⟨x.r.x + cx, x.r.y + cy, x.r.w, x.r.h⟩, x.c, x.b, x.t, x.n⟩ : St).r.x, .int .i64 (⟨x.k, ⟨x.r.x + cx, x.r.y + cy, x.r.w, x.r.h⟩, x.c, x.b, x.t, x.n⟩ : St).r.y, .int .i64 (⟨x.k, ⟨x.r.x + cx, x.r.y + cy, x.r.w, x.r.h⟩, x.c, x.b, x.t, x.n⟩ : St).r.w, .int .i64 (⟨x.k, ⟨x.r.x + cx, x.r.y + cy, x.r.w, x.r.h⟩, x.c, x.b, x.t, x.n⟩ : St).r.h, .int .u8 (⟨x.k, ⟨x.r.x + cx, x.r.y + cy, x.r.w, x.r.h⟩, x.c, x.b, x.t, x.n⟩ : St).c.r, .int .u8 (⟨x.k, ⟨x.r.x + cx, x.r.y + cy, x.r.w, x.r.h⟩, x.c, x.b, x.t, x.n⟩ : St).c.g, .int .u8 (⟨x.k, ⟨x.r.x + cx, x.r.y + cy, x.r.w, x.r.h⟩, x.c, x.b, x.t, x.n⟩ : St).c.b, .int .u8 (⟨x.k, ⟨x.r.x + cx, x.r.y + cy, x.r.w, x.r.h⟩, x.c, x.b, x.t, x.n⟩ : St).c.a, .int .u8 (⟨x.k, ⟨x.r.x + cx, x.r.y + cy, x.r.w, x.r.h⟩, x.c, x.b, x.t, x.n⟩ : St).b.r, .int .u8 (⟨x.k, ⟨x.r.x + cx, x.r.y + cy, x.r.w, x.r.h⟩, x.c, x.b, x.t, x.n⟩ : St).b.g, .int .u8 (⟨x.k, ⟨x.r.x + cx, x.r.y + cy, x.r.w, x.r.h⟩, x.c, x.b, x.t, x.n⟩ : St).b.b, .int .u8 (⟨x.k, ⟨x.r.x + cx, x.r.y + cy, x.r.w, x.r.h⟩, x.c, x.b, x.t, x.n⟩ : St).b.a, .string (⟨x.k, ⟨x.r.x + cx, x.r.y + cy, x.r.w, x.r.h⟩, x.c, x.b, x.t, x.n⟩ : St).t, .int .i64 (⟨x.k, ⟨x.r.x + cx, x.r.y + cy, x.r.w, x.r.h⟩, x.c, x.b, x.t, x.n⟩ : St).n]) 31)) := h2.alloc h3 _
                have b4 : Below B w2 w6 := b3.grown hgrow (HA.out _).2 (fun g hg => (row_lt (HA.out (.cells (#[.int .u8 (⟨x.k, ⟨x.r.x + cx, x.r.y + cy, x.r.w, x.r.h⟩, x.c, x.b, x.t, x.n⟩ : St).k, .int .i64 (⟨x.k, ⟨x.r.x + cx, x.r.y + cy, x.r.w, x.r.h⟩, x.c, x.b, x.t, x.n⟩ : St).r.x, .int .i64 (⟨x.k, ⟨x.r.x + cx, x.r.y + cy, x.r.w, x.r.h⟩, x.c, x.b, x.t, x.n⟩ : St).r.y, .int .i64 (⟨x.k, ⟨x.r.x + cx, x.r.y + cy, x.r.w, x.r.h⟩, x.c, x.b, x.t, x.n⟩ : St).r.w, .int .i64 (⟨x.k, ⟨x.r.x + cx, x.r.y + cy, x.r.w, x.r.h⟩, x.c, x.b, x.t, x.n⟩ : St).r.h, .int .u8 (⟨x.k, ⟨x.r.x + cx, x.r.y + cy, x.r.w, x.r.h⟩, x.c, x.b, x.t, x.n⟩ : St).c.r, .int .u8 (⟨x.k, ⟨x.r.x + cx, x.r.y + cy, x.r.w, x.r.h⟩, x.c, x.b, x.t, x.n⟩ : St).c.g, .int .u8 (⟨x.k, ⟨x.r.x + cx, x.r.y + cy, x.r.w, x.r.h⟩, x.c, x.b, x.t, x.n⟩ : St).c.b, .int .u8 (⟨x.k, ⟨x.r.x + cx, x.r.y + cy, x.r.w, x.r.h⟩, x.c, x.b, x.t, x.n⟩ : St).c.a, .int .u8 (⟨x.k, ⟨x.r.x + cx, x.r.y + cy, x.r.w, x.r.h⟩, x.c, x.b, x.t, x.n⟩ : St).b.r, .int .u8 (⟨x.k, ⟨x.r.x + cx, x.r.y + cy, x.r.w, x.r.h⟩, x.c, x.b, x.t, x.n⟩ : St).b.g, .int .u8 (⟨x.k, ⟨x.r.x + cx, x.r.y + cy, x.r.w, x.r.h⟩, x.c, x.b, x.t, x.n⟩ : St).b.b, .int .u8 (⟨x.k, ⟨x.r.x + cx, x.r.y + cy, x.r.w, x.r.h⟩, x.c, x.b, x.t, x.n⟩ : St).b.a, .string (⟨x.k, ⟨x.r.x + cx, x.r.y + cy, x.r.w, x.r.h⟩, x.c, x.b, x.t, x.n⟩ : St).t, .int .i64 (⟨x.k, ⟨x.r.x + cx, x.r.y + cy, x.r.w, x.r.h⟩, x.c, x.b, x.t, x.n⟩ : St).n]) 31)).1 g hg).1)
                refine ⟨?_, HT1.out.2, b4⟩
                rw [HT1.out.1, ← HFk.out.1, ← HY.out]
                exact snocS HFk.out.2 hown'
              clear hown' hgrow hlies hg4 HA HAP H3 HK a0 a1 a2 a3 a4 a5 a6 a7 a8 a9 a10 a11 a12 a13 a14
              go_wp2
              go_roundw
              case rel => exact ⟨k + 1, by go_num, by omega, HRel⟩
              case measure => simp [intOf]; omega
        · obtain rfl : k = l.length := by omega
          have HF : Hid (OwS w.heap.size wr u9 G ∧ Below w.heap.size w wr ∧ E = 0) := by
            obtain ⟨a1, a2, a3⟩ := HK.out
            rw [List.take_length] at a1 a2
            obtain ⟨e1, e2⟩ := HE.out.1 a2
            rw [HB.out] at a1 a3
            rw [e2]
            exact ⟨a1.weaken H2.out.size, H2.out.trans (a3.mono H2.out.size), e1⟩
          clear HK
          go_wp2
          go_ret2
          refine ⟨_, ?_, HF.out.1, HF.out.2.1⟩
          rw [HF.out.2.2]
          rfl

end Go.Proofs.Ytbghjmkgicdnoaa
