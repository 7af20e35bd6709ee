/-
  Texts of this claim, one behind the other: what each is about stands ahead of it.
-/
import Derived.Test.YtapachlhdgehjaaGreatDoorK24
import Derived.Test.YtapachlhdgehjaaGreatDoorK2
/-
  Package cells: Draw where the screen or the list may not be; At.
-/
namespace Go.Proofs.YtapachlhdgehjaaGreatDoor
open Go.RowKit

theorem two_scr (w : World) (a b : Int) (v : Value) : Below w.heap.size w ((w.alloc (.cells #[.int .i64 a, .int .i64 b, v] 26)).alloc (.cells #[.int .i64 0, .int .i64 0, .slice none 0 0] 26)) ∧ Bk ((w.alloc (.cells #[.int .i64 a, .int .i64 b, v] 26)).alloc (.cells #[.int .i64 0, .int .i64 0, .slice none 0 0] 26)) w.heap.size #[.int .i64 a, .int .i64 b, v] 26 ∧ Bk ((w.alloc (.cells #[.int .i64 a, .int .i64 b, v] 26)).alloc (.cells #[.int .i64 0, .int .i64 0, .slice none 0 0] 26)) (w.heap.size + 1) #[.int .i64 0, .int .i64 0, .slice none 0 0] 26 := by
  have k1 := Bk.new w #[.int .i64 a, .int .i64 b, v] 26
  have k2 := Bk.new (w.alloc (.cells #[.int .i64 a, .int .i64 b, v] 26)) #[.int .i64 0, .int .i64 0, .slice none 0 0] 26
  rw [World.size_alloc] at k2
  exact ⟨((Below.refl _ w).alloc (Nat.le_refl _) _).alloc (by simp) _, k1.below ((Below.refl _ _).alloc (Nat.le_refl _) _), k2⟩

set_option maxRecDepth 20000 in
set_option maxHeartbeats 2000000 in
theorem dDraw_scr (a b : Int) (l : List Ce) (v vs : Value) (w : World) (hv : LsC w v l) (hl : l.length ≤ 9223372036854775806) (hE : scE a b l = 150) (T : Tabs w) :
    Calls Tryz.prog 8 #[.agg #[.int .i64 a, .int .i64 b, v], vs] w fun e w' => e = .returned (.tuple #[.agg #[.int .i64 0, .int .i64 0, .slice none 0 0], .int .i64 150]) ∧ Below w.heap.size w w' := by
  obtain ⟨oa, cap, rfl, hcap, -⟩ := id hv
  have HC : Hid (∀ W, Below w.heap.size w W → Calls Tryz.prog 26 #[.agg #[.int .i64 a, .int .i64 b, .slice oa l.length cap]] W fun e w' => e = .returned (.int .i64 150) ∧ Below W.heap.size W w') := fun W h => by rw [← hE]; exact checkC_any a b l _ W (hv.below h) hl (T.below h)
  have H0 : Hid (Below w.heap.size w ((w.alloc (.cells #[.int .i64 a, .int .i64 b, .slice oa l.length cap] 26)).alloc (.cells #[.int .i64 0, .int .i64 0, .slice none 0 0] 26)) ∧ Bk ((w.alloc (.cells #[.int .i64 a, .int .i64 b, .slice oa l.length cap] 26)).alloc (.cells #[.int .i64 0, .int .i64 0, .slice none 0 0] 26)) w.heap.size #[.int .i64 a, .int .i64 b, .slice oa l.length cap] 26 ∧ Bk ((w.alloc (.cells #[.int .i64 a, .int .i64 b, .slice oa l.length cap] 26)).alloc (.cells #[.int .i64 0, .int .i64 0, .slice none 0 0] 26)) (w.heap.size + 1) #[.int .i64 0, .int .i64 0, .slice none 0 0] 26) := two_scr w a b _
  clear hv T hE
  go_enter Tryz.func8, Tryz.ntmps8
  go_wp2_with fail
  generalize (w.alloc (.cells #[.int .i64 a, .int .i64 b, .slice oa l.length cap] 26)).alloc (.cells #[.int .i64 0, .int .i64 0, .slice none 0 0] 26) = w1 at *
  refine (HC.out _ H0.out.1).mono ?_
  rintro e w2 ⟨rfl, hb⟩
  have H2 : Hid (Below w.heap.size w w2 ∧ Bk w2 (w.heap.size + 1) #[.int .i64 0, .int .i64 0, .slice none 0 0] 26) := ⟨H0.out.1.trans (hb.mono H0.out.1.size), H0.out.2.2.below hb⟩
  clear hb H0 HC
  obtain ⟨z0, z1, z2⟩ := Bk.at3S H2.out.2
  have y0 := H2.out.2.frozen 0
  have y1 := H2.out.2.frozen 1
  have y2 := H2.out.2.frozen 2
  obtain ⟨W9, hW9⟩ : ∃ W9, W9 = ((w2.setCell ⟨w.heap.size + 1, 0, none⟩ (.int .i64 0)).setCell ⟨w.heap.size + 1, 1, none⟩ (.int .i64 0)).setCell ⟨w.heap.size + 1, 2, none⟩ (.slice none 0 0) := ⟨_, rfl⟩
  have H9 : Hid (Below w.heap.size w W9 ∧ Bk W9 (w.heap.size + 1) #[.int .i64 0, .int .i64 0, .slice none 0 0] 26) := by
    have u2 := H2.out.1
    rw [hW9]
    exact ⟨((u2.setCell (p := ⟨w.heap.size + 1, 0, none⟩) (by simp) _).setCell (p := ⟨w.heap.size + 1, 1, none⟩) (by simp) _).setCell (p := ⟨w.heap.size + 1, 2, none⟩) (by simp) _, H2.out.2.put3S⟩
  go_wp2
  rw [← hW9]
  clear hW9 H2 z0 z1 z2 y0 y1 y2
  obtain ⟨z0, z1, z2⟩ := Bk.at3S H9.out.2
  exact bodyPost_ret (v := .tuple #[.agg #[.int .i64 0, .int .i64 0, .slice none 0 0], .int .i64 150]) (by simp [results, Tryz.results8, go_sem, z0, z1, z2]) rfl ⟨rfl, H9.out.1⟩

set_option maxRecDepth 20000 in
set_option maxHeartbeats 2000000 in
theorem dDraw_lst (a b : Int) (l : List Ce) (v : Value) (sl : List St) (vs : Value) (w : World) (hv : LsC w v l) (hl : l.length ≤ 9223372036854775806) (hE : scE a b l = 0) (hvs : LsS w vs sl) (ht : Txs sl) (hxy : Xys sl) (hck : chkS sl ≠ 0) (T : Tabs w) :
    Calls Tryz.prog 8 #[.agg #[.int .i64 a, .int .i64 b, v], vs] w fun e w' => e = .returned (.tuple #[.agg #[.int .i64 0, .int .i64 0, .slice none 0 0], .int .i64 (chkS sl)]) ∧ Below w.heap.size w w' := by
  obtain ⟨oa, cap, rfl, hcap, -⟩ := id hv
  have HC : Hid (∀ W, Below w.heap.size w W → Calls Tryz.prog 26 #[.agg #[.int .i64 a, .int .i64 b, .slice oa l.length cap]] W fun e w' => e = .returned (.int .i64 0) ∧ Below W.heap.size W w') := fun W h => by rw [← hE]; exact checkC_any a b l _ W (hv.below h) hl (T.below h)
  obtain ⟨ce, hce⟩ : ∃ ce, ce = chkS sl := ⟨_, rfl⟩
  have HF : Hid (∀ W, Below w.heap.size w W → Calls Tryz.prog 27 #[vs] W fun e w' => ∃ u q, e = .returned (.tuple #[u, q, .int .i64 ce]) ∧ Hid (OwS W.heap.size w' u (fla1 sl) ∧ OwR W.heap.size w' q (fla2 sl) ∧ Below W.heap.size W w')) := fun W h => by
    refine (lflat_any sl vs W (hvs.below h) ht hxy).mono ?_
    rintro e w' ⟨u, q, rfl, H⟩
    rw [hce]
    exact ⟨u, q, rfl, H.out.1, H.out.2.1, H.out.2.2.2⟩
  rw [← hce] at hck ⊢
  have hne : (ce != 0) = true := by simp [hck]
  have H0 : Hid (Below w.heap.size w ((w.alloc (.cells #[.int .i64 a, .int .i64 b, .slice oa l.length cap] 26)).alloc (.cells #[.int .i64 0, .int .i64 0, .slice none 0 0] 26)) ∧ Bk ((w.alloc (.cells #[.int .i64 a, .int .i64 b, .slice oa l.length cap] 26)).alloc (.cells #[.int .i64 0, .int .i64 0, .slice none 0 0] 26)) w.heap.size #[.int .i64 a, .int .i64 b, .slice oa l.length cap] 26 ∧ Bk ((w.alloc (.cells #[.int .i64 a, .int .i64 b, .slice oa l.length cap] 26)).alloc (.cells #[.int .i64 0, .int .i64 0, .slice none 0 0] 26)) (w.heap.size + 1) #[.int .i64 0, .int .i64 0, .slice none 0 0] 26) := two_scr w a b _
  clear hv T hE hvs ht hxy hce hck
  go_enter Tryz.func8, Tryz.ntmps8
  go_wp2_with fail
  generalize (w.alloc (.cells #[.int .i64 a, .int .i64 b, .slice oa l.length cap] 26)).alloc (.cells #[.int .i64 0, .int .i64 0, .slice none 0 0] 26) = w1 at *
  refine (HC.out _ H0.out.1).mono ?_
  rintro e w2 ⟨rfl, hb⟩
  have H2 : Hid (Below w.heap.size w w2 ∧ Bk w2 (w.heap.size + 1) #[.int .i64 0, .int .i64 0, .slice none 0 0] 26) := ⟨H0.out.1.trans (hb.mono H0.out.1.size), H0.out.2.2.below hb⟩
  clear hb H0 HC
  go_wp2_with fail
  refine (HF.out _ H2.out.1).mono ?_
  rintro e w3 ⟨us, qs, rfl, H3⟩
  obtain ⟨ou, cu, eu, hcu, -⟩ := row_val H3.out.1
  obtain ⟨oq, cq, eq, hcq, -⟩ := row_val H3.out.2.1
  subst eu eq
  have H4 : Hid (Below w.heap.size w w3 ∧ Bk w3 (w.heap.size + 1) #[.int .i64 0, .int .i64 0, .slice none 0 0] 26) := ⟨H2.out.1.trans (H3.out.2.2.mono H2.out.1.size), H2.out.2.below H3.out.2.2⟩
  clear H3 H2 HF
  obtain ⟨z0, z1, z2⟩ := Bk.at3S H4.out.2
  have y0 := H4.out.2.frozen 0
  have y1 := H4.out.2.frozen 1
  have y2 := H4.out.2.frozen 2
  obtain ⟨W9, hW9⟩ : ∃ W9, W9 = ((w3.setCell ⟨w.heap.size + 1, 0, none⟩ (.int .i64 0)).setCell ⟨w.heap.size + 1, 1, none⟩ (.int .i64 0)).setCell ⟨w.heap.size + 1, 2, none⟩ (.slice none 0 0) := ⟨_, rfl⟩
  have H9 : Hid (Below w.heap.size w W9 ∧ Bk W9 (w.heap.size + 1) #[.int .i64 0, .int .i64 0, .slice none 0 0] 26) := by
    have u2 := H4.out.1
    rw [hW9]
    exact ⟨((u2.setCell (p := ⟨w.heap.size + 1, 0, none⟩) (by simp) _).setCell (p := ⟨w.heap.size + 1, 1, none⟩) (by simp) _).setCell (p := ⟨w.heap.size + 1, 2, none⟩) (by simp) _, H4.out.2.put3S⟩
  go_wp2
  rw [← hW9]
  clear hW9 H4 z0 z1 z2 y0 y1 y2
  obtain ⟨z0, z1, z2⟩ := Bk.at3S H9.out.2
  exact bodyPost_ret (v := .tuple #[.agg #[.int .i64 0, .int .i64 0, .slice none 0 0], .int .i64 ce]) (by simp [results, Tryz.results8, go_sem, z0, z1, z2]) rfl ⟨rfl, H9.out.1⟩

end Go.Proofs.YtapachlhdgehjaaGreatDoor

/-
  Contract of package geom: what a rectangle has around another one that lies in it.
-/
namespace Go.Proofs.YtapachlhdgehjaaGreatDoor
open Go.RowKit

theorem heap_new (w : World) (o : Obj) {b : Nat} (h : b = w.heap.size) : (w.alloc o).heap[b]? = some o := by
  subst h
  show (w.heap.push o)[w.heap.size]? = _
  simp

set_option maxRecDepth 20000 in
set_option maxHeartbeats 4000000 in
theorem around_any (ax ay aw ah mx my mw mh : Int) (w : World) (lax : -16384 ≤ ax) (uax : ax ≤ 16384) (lay : -16384 ≤ ay) (uay : ay ≤ 16384) (lmx : -16384 ≤ mx) (umx : mx ≤ 16384) (lmy : -16384 ≤ my) (umy : my ≤ 16384) (law : 0 ≤ aw) (uaw : aw ≤ 32768) (lah : 0 ≤ ah) (uah : ah ≤ 32768) (lmw : 0 ≤ mw) (umw : mw ≤ 32768) (lmh : 0 ≤ mh) (umh : mh ≤ 32768) :
    Calls Tryz.prog 161 #[.agg #[.int .i64 ax, .int .i64 ay, .int .i64 aw, .int .i64 ah], .agg #[.int .i64 mx, .int .i64 my, .int .i64 mw, .int .i64 mh]] w fun e w' => e = .returned (.agg #[.int .i64 (btw ax ay (ax + aw) my).x, .int .i64 (btw ax ay (ax + aw) my).y, .int .i64 (btw ax ay (ax + aw) my).w, .int .i64 (btw ax ay (ax + aw) my).h, .int .i64 (btw ax my mx (my + mh)).x, .int .i64 (btw ax my mx (my + mh)).y, .int .i64 (btw ax my mx (my + mh)).w, .int .i64 (btw ax my mx (my + mh)).h, .int .i64 (btw (mx + mw) my (ax + aw) (my + mh)).x, .int .i64 (btw (mx + mw) my (ax + aw) (my + mh)).y, .int .i64 (btw (mx + mw) my (ax + aw) (my + mh)).w, .int .i64 (btw (mx + mw) my (ax + aw) (my + mh)).h, .int .i64 (btw ax (my + mh) (ax + aw) (ay + ah)).x, .int .i64 (btw ax (my + mh) (ax + aw) (ay + ah)).y, .int .i64 (btw ax (my + mh) (ax + aw) (ay + ah)).w, .int .i64 (btw ax (my + mh) (ax + aw) (ay + ah)).h]) ∧ Below w.heap.size w w' := by
  have hE1 : Hid (∀ w, Calls Tryz.prog 58 #[.agg #[.int .i64 ax, .int .i64 ay, .int .i64 aw, .int .i64 ah]] w fun e w' => e = .returned (.agg #[.int .i64 (ax + aw), .int .i64 (ay + ah)]) ∧ Below w.heap.size w w') := fun w => end_any _ _ _ _ _ (by omega) (by omega) (by omega) (by omega) (by omega) (by omega) (by omega) (by omega)
  have hE2 : Hid (∀ w, Calls Tryz.prog 58 #[.agg #[.int .i64 mx, .int .i64 my, .int .i64 mw, .int .i64 mh]] w fun e w' => e = .returned (.agg #[.int .i64 (mx + mw), .int .i64 (my + mh)]) ∧ Below w.heap.size w w') := fun w => end_any _ _ _ _ _ (by omega) (by omega) (by omega) (by omega) (by omega) (by omega) (by omega) (by omega)
  have hB0 : Hid (∀ w, Calls Tryz.prog 59 #[.agg #[.int .i64 ax, .int .i64 ay], .agg #[.int .i64 (ax + aw), .int .i64 my]] w fun e w' => e = .returned (.agg #[.int .i64 (btw ax ay (ax + aw) my).x, .int .i64 (btw ax ay (ax + aw) my).y, .int .i64 (btw ax ay (ax + aw) my).w, .int .i64 (btw ax ay (ax + aw) my).h]) ∧ Below w.heap.size w w') := fun w => between_any _ _ _ _ _ (by omega) (by omega) (by omega) (by omega) (by omega) (by omega) (by omega) (by omega)
  have hB1 : Hid (∀ w, Calls Tryz.prog 59 #[.agg #[.int .i64 ax, .int .i64 my], .agg #[.int .i64 mx, .int .i64 (my + mh)]] w fun e w' => e = .returned (.agg #[.int .i64 (btw ax my mx (my + mh)).x, .int .i64 (btw ax my mx (my + mh)).y, .int .i64 (btw ax my mx (my + mh)).w, .int .i64 (btw ax my mx (my + mh)).h]) ∧ Below w.heap.size w w') := fun w => between_any _ _ _ _ _ (by omega) (by omega) (by omega) (by omega) (by omega) (by omega) (by omega) (by omega)
  have hB2 : Hid (∀ w, Calls Tryz.prog 59 #[.agg #[.int .i64 (mx + mw), .int .i64 my], .agg #[.int .i64 (ax + aw), .int .i64 (my + mh)]] w fun e w' => e = .returned (.agg #[.int .i64 (btw (mx + mw) my (ax + aw) (my + mh)).x, .int .i64 (btw (mx + mw) my (ax + aw) (my + mh)).y, .int .i64 (btw (mx + mw) my (ax + aw) (my + mh)).w, .int .i64 (btw (mx + mw) my (ax + aw) (my + mh)).h]) ∧ Below w.heap.size w w') := fun w => between_any _ _ _ _ _ (by omega) (by omega) (by omega) (by omega) (by omega) (by omega) (by omega) (by omega)
  have hB3 : Hid (∀ w, Calls Tryz.prog 59 #[.agg #[.int .i64 ax, .int .i64 (my + mh)], .agg #[.int .i64 (ax + aw), .int .i64 (ay + ah)]] w fun e w' => e = .returned (.agg #[.int .i64 (btw ax (my + mh) (ax + aw) (ay + ah)).x, .int .i64 (btw ax (my + mh) (ax + aw) (ay + ah)).y, .int .i64 (btw ax (my + mh) (ax + aw) (ay + ah)).w, .int .i64 (btw ax (my + mh) (ax + aw) (ay + ah)).h]) ∧ Below w.heap.size w w') := fun w => between_any _ _ _ _ _ (by omega) (by omega) (by omega) (by omega) (by omega) (by omega) (by omega) (by omega)
  generalize btw ax ay (ax + aw) my = o0 at *
  generalize btw ax my mx (my + mh) = o1 at *
  generalize btw (mx + mw) my (ax + aw) (my + mh) = o2 at *
  generalize btw ax (my + mh) (ax + aw) (ay + ah) = o3 at *
  generalize ax + aw = ex at *
  generalize ay + ah = ey at *
  generalize mx + mw = fx at *
  generalize my + mh = fy at *
  clear lax uax lay uay lmx umx lmy umy law uaw lah uah lmw umw lmh umh
  go_enter Tryz.func161, Tryz.ntmps161
  go_upto_region 1 with fail
  have A := ((At4.new w ax ay aw ah 52).alloc (.cells #[.int .i64 mx, .int .i64 my, .int .i64 mw, .int .i64 mh] 52)).alloc (.cells #[.int .i64 0, .int .i64 0, .int .i64 0, .int .i64 0, .int .i64 0, .int .i64 0, .int .i64 0, .int .i64 0, .int .i64 0, .int .i64 0, .int .i64 0, .int .i64 0, .int .i64 0, .int .i64 0, .int .i64 0, .int .i64 0] 245)
  have M := (At4.new' (w.alloc (.cells #[.int .i64 ax, .int .i64 ay, .int .i64 aw, .int .i64 ah] 52)) (w.heap.size + 1) mx my mw mh 52 (by simp)).alloc (.cells #[.int .i64 0, .int .i64 0, .int .i64 0, .int .i64 0, .int .i64 0, .int .i64 0, .int .i64 0, .int .i64 0, .int .i64 0, .int .i64 0, .int .i64 0, .int .i64 0, .int .i64 0, .int .i64 0, .int .i64 0, .int .i64 0] 245)
  have G : (((w.alloc (.cells #[.int .i64 ax, .int .i64 ay, .int .i64 aw, .int .i64 ah] 52)).alloc (.cells #[.int .i64 mx, .int .i64 my, .int .i64 mw, .int .i64 mh] 52)).alloc (.cells #[.int .i64 0, .int .i64 0, .int .i64 0, .int .i64 0, .int .i64 0, .int .i64 0, .int .i64 0, .int .i64 0, .int .i64 0, .int .i64 0, .int .i64 0, .int .i64 0, .int .i64 0, .int .i64 0, .int .i64 0, .int .i64 0] 245)).heap[w.heap.size + 1 + 1]? = some (.cells #[.int .i64 0, .int .i64 0, .int .i64 0, .int .i64 0, .int .i64 0, .int .i64 0, .int .i64 0, .int .i64 0, .int .i64 0, .int .i64 0, .int .i64 0, .int .i64 0, .int .i64 0, .int .i64 0, .int .i64 0, .int .i64 0] 245) := by
    exact heap_new _ _ (by simp)
  have L := (((Below.refl w.heap.size w).alloc (Nat.le_refl _) (.cells #[.int .i64 ax, .int .i64 ay, .int .i64 aw, .int .i64 ah] 52)).alloc (by simp) (.cells #[.int .i64 mx, .int .i64 my, .int .i64 mw, .int .i64 mh] 52)).alloc (by simp; omega) (.cells #[.int .i64 0, .int .i64 0, .int .i64 0, .int .i64 0, .int .i64 0, .int .i64 0, .int .i64 0, .int .i64 0, .int .i64 0, .int .i64 0, .int .i64 0, .int .i64 0, .int .i64 0, .int .i64 0, .int .i64 0, .int .i64 0] 245)
  generalize ((w.alloc (.cells #[.int .i64 ax, .int .i64 ay, .int .i64 aw, .int .i64 ah] 52)).alloc (.cells #[.int .i64 mx, .int .i64 my, .int .i64 mw, .int .i64 mh] 52)).alloc (.cells #[.int .i64 0, .int .i64 0, .int .i64 0, .int .i64 0, .int .i64 0, .int .i64 0, .int .i64 0, .int .i64 0, .int .i64 0, .int .i64 0, .int .i64 0, .int .i64 0, .int .i64 0, .int .i64 0, .int .i64 0, .int .i64 0] 245) = W at *
  have HL : Hid (At4 W w.heap.size ax ay aw ah ∧ At4 W (w.heap.size + 1) mx my mw mh ∧ W.heap[w.heap.size + 1 + 1]? = some (.cells #[.int .i64 0, .int .i64 0, .int .i64 0, .int .i64 0, .int .i64 0, .int .i64 0, .int .i64 0, .int .i64 0, .int .i64 0, .int .i64 0, .int .i64 0, .int .i64 0, .int .i64 0, .int .i64 0, .int .i64 0, .int .i64 0] 245) ∧ Below w.heap.size w W) := ⟨A, M, G, L⟩
  clear A M G L
  refine wp_region_lit 4 2 2 (fun _ => .cells #[.int .i64 0, .int .i64 0] 50) [5, 6] (by kernel_rfl) (by kernel_rfl) rfl ?_ rfl ?_ ?_
  · intro k hk
    have hc : k = 0 ∨ k = 1 := by omega
    rcases hc with rfl | rfl <;> rfl
  · intro i h1 h2
    have hc : i = 4 ∨ i = 5 := by omega
    rcases hc with rfl | rfl
    · exact ⟨_, rfl, rfl, fun _ _ => rfl⟩
    · exact ⟨_, rfl, rfl, fun _ _ => rfl⟩
  apply Exists.intro
  refine ⟨fun bs ne => ?_, ?_⟩
  · obtain ⟨HA, HB, _⟩ := HL.out
    have d0 := fun t : Gb W bs => (HA.below t.below).1
    have d1 := fun t : Gb W bs => (HA.below t.below).2.1
    have d2 := fun t : Gb W bs => (HA.below t.below).2.2.1
    have d3 := fun t : Gb W bs => (HA.below t.below).2.2.2
    have e0 := fun t : Gb W bs => (HB.below t.below).1
    have e1 := fun t : Gb W bs => (HB.below t.below).2.1
    have e2 := fun t : Gb W bs => (HB.below t.below).2.2.1
    have e3 := fun t : Gb W bs => (HB.below t.below).2.2.2
    clear HA HB
    simp only [List.take_succ_cons, List.take_zero]
    repeat (go_big_quiet_step (first
      | (go_at_call_of 58 (Value.agg #[.int .i64 ax, .int .i64 ay, .int .i64 aw, .int .i64 ah]); exact gb_call (hE1.out _))
      | (go_at_call_of 58 (Value.agg #[.int .i64 mx, .int .i64 my, .int .i64 mw, .int .i64 mh]); exact gb_call (hE2.out _))))
    exact wpQuiet_nil rfl
  · intro bl wr hb hlo hinj
    obtain ⟨k1, k2⟩ := hlo 4 (by omega) (by omega)
    obtain ⟨k3, k4⟩ := hlo 5 (by omega) (by omega)
    have k5 := hinj 4 5 (by omega) (by omega) (by omega) (by omega) (by omega)
    obtain ⟨c1, f1, l1⟩ := heap_cells k2
    obtain ⟨c2, f2, l2⟩ := heap_cells k4
    simp only [layL, ptr]
    generalize bl 4 = g5 at *
    generalize bl 5 = g6 at *
    clear hlo hinj k2 k4
    refine wpAny_one 6 (by kernel_rfl) rfl ?_
    intro K hK
    go_simp
    refine hK _ _ ?_
    clear hK K
    refine wpAny_one 7 (by kernel_rfl) rfl ?_
    intro K hK
    go_simp
    refine hK _ _ ?_
    clear hK K
    refine wpAny_done (by kernel_rfl) ?_ _
    obtain ⟨HA, HB, HG, HD⟩ := HL.out
    have ha := HA.lt
    have hb1 := HB.lt
    have hd := HD.size
    have z5 : At2 wr g5 0 0 := ⟨by rw [c1]; rfl, by rw [c1]; rfl⟩
    have z6 : At2 wr g6 0 0 := ⟨by rw [c2]; rfl, by rw [c2]; rfl⟩
    have gl : w.heap.size + 1 + 1 < W.heap.size := (Array.getElem?_eq_some_iff.1 HG).1
    replace HG : wr.heap[w.heap.size + 1 + 1]? = some (.cells #[.int .i64 0, .int .i64 0, .int .i64 0, .int .i64 0, .int .i64 0, .int .i64 0, .int .i64 0, .int .i64 0, .int .i64 0, .int .i64 0, .int .i64 0, .int .i64 0, .int .i64 0, .int .i64 0, .int .i64 0, .int .i64 0] 245) := by rw [hb.block _ gl]; exact HG
    have y5 := ((z5.put ex ey).set (p := ⟨g6, 0, none⟩) (.int .i64 fx) (Ne.symm k5)).set (p := ⟨g6, 1, none⟩) (.int .i64 fy) (Ne.symm k5)
    have y6 := ((z6.set (p := ⟨g5, 0, none⟩) (.int .i64 ex) k5).set (p := ⟨g5, 1, none⟩) (.int .i64 ey) k5).put fx fy
    have yA := ((((HA.below hb).set (p := ⟨g5, 0, none⟩) (.int .i64 ex) (by show g5 ≠ _; omega)).set (p := ⟨g5, 1, none⟩) (.int .i64 ey) (by show g5 ≠ _; omega)).set (p := ⟨g6, 0, none⟩) (.int .i64 fx) (by show g6 ≠ _; omega)).set (p := ⟨g6, 1, none⟩) (.int .i64 fy) (by show g6 ≠ _; omega)
    have yM := ((((HB.below hb).set (p := ⟨g5, 0, none⟩) (.int .i64 ex) (by show g5 ≠ _; omega)).set (p := ⟨g5, 1, none⟩) (.int .i64 ey) (by show g5 ≠ _; omega)).set (p := ⟨g6, 0, none⟩) (.int .i64 fx) (by show g6 ≠ _; omega)).set (p := ⟨g6, 1, none⟩) (.int .i64 fy) (by show g6 ≠ _; omega)
    have yL := ((((HD.trans (hb.mono hd)).setCell (p := ⟨g5, 0, none⟩) (by show _ ≤ g5; omega) (.int .i64 ex)).setCell (p := ⟨g5, 1, none⟩) (by show _ ≤ g5; omega) (.int .i64 ey)).setCell (p := ⟨g6, 0, none⟩) (by show _ ≤ g6; omega) (.int .i64 fx)).setCell (p := ⟨g6, 1, none⟩) (by show _ ≤ g6; omega) (.int .i64 fy)
    have yG : ((((wr.setCell ⟨g5, 0, none⟩ (.int .i64 ex)).setCell ⟨g5, 1, none⟩ (.int .i64 ey)).setCell ⟨g6, 0, none⟩ (.int .i64 fx)).setCell ⟨g6, 1, none⟩ (.int .i64 fy)).heap[w.heap.size + 1 + 1]? = some (.cells #[.int .i64 0, .int .i64 0, .int .i64 0, .int .i64 0, .int .i64 0, .int .i64 0, .int .i64 0, .int .i64 0, .int .i64 0, .int .i64 0, .int .i64 0, .int .i64 0, .int .i64 0, .int .i64 0, .int .i64 0, .int .i64 0] 245) := by
      rw [Below.heap_setCell _ _ _ _ (by show _ ≠ g6; omega), Below.heap_setCell _ _ _ _ (by show _ ≠ g6; omega), Below.heap_setCell _ _ _ _ (by show _ ≠ g5; omega), Below.heap_setCell _ _ _ _ (by show _ ≠ g5; omega)]
      exact HG
    generalize (((wr.setCell ⟨g5, 0, none⟩ (.int .i64 ex)).setCell ⟨g5, 1, none⟩ (.int .i64 ey)).setCell ⟨g6, 0, none⟩ (.int .i64 fx)).setCell ⟨g6, 1, none⟩ (.int .i64 fy) = X at *
    have HX : Hid (At4 X w.heap.size ax ay aw ah ∧ At4 X (w.heap.size + 1) mx my mw mh ∧ At2 X g5 ex ey ∧ At2 X g6 fx fy ∧ X.heap[w.heap.size + 1 + 1]? = some (.cells #[.int .i64 0, .int .i64 0, .int .i64 0, .int .i64 0, .int .i64 0, .int .i64 0, .int .i64 0, .int .i64 0, .int .i64 0, .int .i64 0, .int .i64 0, .int .i64 0, .int .i64 0, .int .i64 0, .int .i64 0, .int .i64 0] 245) ∧ Below w.heap.size w X) := ⟨yA, yM, y5, y6, yG, yL⟩
    clear HL HA HB HG HD hb ha hb1 hd z5 z6 gl y5 y6 yA yM yL yG c1 f1 l1 c2 f2 l2 k1 k3 k5 hE1 hE2
    go_upto_region 2 with fail
    refine wp_region_lit 44 0 1 (fun _ => .cells #[] 0) [] (by kernel_rfl) (by kernel_rfl) rfl (fun k hk => absurd hk (Nat.not_lt_zero _)) rfl (fun i h1 h2 => absurd h2 (by omega)) ?_
    apply Exists.intro
    refine ⟨fun bs ne => ?_, ?_⟩
    · obtain ⟨HA, HB, H5, H6, _⟩ := HX.out
      have d0 := fun t : Gb X bs => (HA.below t.below).1
      have d1 := fun t : Gb X bs => (HA.below t.below).2.1
      have d2 := fun t : Gb X bs => (HA.below t.below).2.2.1
      have d3 := fun t : Gb X bs => (HA.below t.below).2.2.2
      have e0 := fun t : Gb X bs => (HB.below t.below).1
      have e1 := fun t : Gb X bs => (HB.below t.below).2.1
      have e2 := fun t : Gb X bs => (HB.below t.below).2.2.1
      have e3 := fun t : Gb X bs => (HB.below t.below).2.2.2
      have f0 := fun t : Gb X bs => (H5.below t.below).1
      have f1 := fun t : Gb X bs => (H5.below t.below).2
      have g0 := fun t : Gb X bs => (H6.below t.below).1
      have g1 := fun t : Gb X bs => (H6.below t.below).2
      clear HA HB H5 H6
      simp only [List.take_succ_cons, List.take_zero]
      repeat (go_big_quiet_step (first
        | (go_at_call_of 59 (Value.agg #[.int .i64 ax, .int .i64 ay]); exact gb_call (hB0.out _))
        | (go_at_call_of 59 (Value.agg #[.int .i64 ax, .int .i64 my]); exact gb_call (hB1.out _))
        | (go_at_call_of 59 (Value.agg #[.int .i64 fx, .int .i64 my]); exact gb_call (hB2.out _))
        | (go_at_call_of 59 (Value.agg #[.int .i64 ax, .int .i64 fy]); exact gb_call (hB3.out _))))
      exact wpQuiet_nil rfl
    · intro bl wr hb _ _
      simp only [layL]
      obtain ⟨HA, HB, H5, H6, HG, HD⟩ := HX.out
      have gl : w.heap.size + 1 + 1 < X.heap.size := (Array.getElem?_eq_some_iff.1 HG).1
      replace HG : wr.heap[w.heap.size + 1 + 1]? = some (.cells #[.int .i64 0, .int .i64 0, .int .i64 0, .int .i64 0, .int .i64 0, .int .i64 0, .int .i64 0, .int .i64 0, .int .i64 0, .int .i64 0, .int .i64 0, .int .i64 0, .int .i64 0, .int .i64 0, .int .i64 0, .int .i64 0] 245) := by rw [hb.block _ gl]; exact HG
      replace HD := HD.trans (hb.mono HD.size)
      obtain ⟨c1, f1, l1⟩ := heap_cells HG
      clear HA HB H5 H6 hb HX hB0 hB1 hB2 hB3 gl
      refine wpAny_one 44 (by kernel_rfl) rfl ?_
      intro K hK
      go_simp
      refine hK _ _ ?_
      clear hK K
      refine wpAny_done (by kernel_rfl) ?_ _
      go_wp2
      exact bodyPost_ret (v := .agg #[.int .i64 o0.x, .int .i64 o0.y, .int .i64 o0.w, .int .i64 o0.h, .int .i64 o1.x, .int .i64 o1.y, .int .i64 o1.w, .int .i64 o1.h, .int .i64 o2.x, .int .i64 o2.y, .int .i64 o2.w, .int .i64 o2.h, .int .i64 o3.x, .int .i64 o3.y, .int .i64 o3.w, .int .i64 o3.h]) (by simp [results, Tryz.results161, go_sem, c1]) rfl ⟨rfl, (((((((((((((((HD.setCell (by show _ ≤ w.heap.size + 1 + 1; omega) _).setCell (by show _ ≤ w.heap.size + 1 + 1; omega) _).setCell (by show _ ≤ w.heap.size + 1 + 1; omega) _).setCell (by show _ ≤ w.heap.size + 1 + 1; omega) _).setCell (by show _ ≤ w.heap.size + 1 + 1; omega) _).setCell (by show _ ≤ w.heap.size + 1 + 1; omega) _).setCell (by show _ ≤ w.heap.size + 1 + 1; omega) _).setCell (by show _ ≤ w.heap.size + 1 + 1; omega) _).setCell (by show _ ≤ w.heap.size + 1 + 1; omega) _).setCell (by show _ ≤ w.heap.size + 1 + 1; omega) _).setCell (by show _ ≤ w.heap.size + 1 + 1; omega) _).setCell (by show _ ≤ w.heap.size + 1 + 1; omega) _).setCell (by show _ ≤ w.heap.size + 1 + 1; omega) _).setCell (by show _ ≤ w.heap.size + 1 + 1; omega) _).setCell (by show _ ≤ w.heap.size + 1 + 1; omega) _).setCell (by show _ ≤ w.heap.size + 1 + 1; omega) _⟩

end Go.Proofs.YtapachlhdgehjaaGreatDoor
