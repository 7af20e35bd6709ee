/-
  The contract of runes.Lines.
-/
import Derived.Test.YtbnbfgkcndomaabGreatDoorRL4
namespace Go.Proofs.YtbnbfgkcndomaabGreatDoor
open Go.RowKit Go.Shelf

/-- What strings.Split needs beside the text: a number that the processor's kind tells. -/
def TabM (w : World) : Prop := ∃ m : Int, w.cell? ⟨2, 0, none⟩ = some (.int .i64 m)
theorem TabM.below {W w1 : World} (h : TabM W) (hb : Below W.heap.size W w1) : TabM w1 := by
  obtain ⟨m, h⟩ := h
  exact ⟨m, cellB (Nat.le_refl _) hb h⟩

theorem split_any (s : ByteArray) (w : World) (M : TabM w) (hs : s.size ≤ 1048576) :
    Calls Tryz.prog 150 #[.string s, .string nl] w fun e w' => e = .returned (.slice (some ⟨w.heap.size, 0, none⟩) (paras s).length (paras s).length) ∧ w' = w.alloc (.cells ((paras s).map Value.string).toArray 9) := by
  obtain ⟨m, hm⟩ := M
  rw [paras_len]
  exact Any.strings_Split Tryz.lays146 (by kernel_rfl) s nl m w (by omega) hm (by decide)

theorem info_string : (Tryz.prog.info? 9).map (fun i => (i.zero, i.size, i.bytes)) = some (some (.string ByteArray.empty), 1, 16) := by kernel_rfl

theorem row_type {base : Nat} {e : TypeId} {size : Nat} {v : Value} {n : Nat} {xs : List Value} {X Y : World} (h : X.ownsRow base e size v n xs) (hg : X.grownBy Y v.ownBlock) {k : Nat} {cs : Array Value} {t : TypeId} (ht : t ≠ e) (hk : Blk X k cs t) : Blk Y k cs t := by
  refine (hg.block k hk.lt (fun he => ?_)).trans hk
  obtain ⟨hl, h⟩ := h
  rcases h with ⟨rfl, _⟩ | ⟨g, cap, cur, rfl, hb, hc, _⟩
  · cases he
  · simp [Value.ownBlock] at he
    subst he
    rw [show X.heap[k]? = _ from hk] at hc
    cases hc
    exact ht rfl

/-- The lines of the first paragraphs; of one's first lines. -/
theorem outL_snoc (ps : List ByteArray) (p : ByteArray) (room : Int) : outL (ps ++ [p]) room = outL ps room ++ outP p room := by simp [outL]
theorem widL_snoc (ps : List ByteArray) (p : ByteArray) (room m : Int) : widL (ps ++ [p]) room m = widP p room (widL ps room m) := by simp [widL]
def outJ (p : ByteArray) (ls : List Ln) : List ByteArray := ls.map fun l => p.extract l.fr l.to
def widJ (ls : List Ln) (m : Int) : Int := ls.foldl (fun m l => max m l.c) m
theorem outL_len (room : Int) (N : Nat) : ∀ ps : List ByteArray, (∀ p ∈ ps, p.size ≤ N) → (outL ps room).length ≤ ps.length * (3 * N + 1)
  | [], _ => by simp [outL]
  | p :: t, h => by
    have h1 := outL_len room N t (fun q hq => h q (by simp [hq]))
    have h2 := (lines_len p room).2
    have h3 := h p (by simp)
    have e : outL (p :: t) room = outP p room ++ outL t room := by simp [outL]
    rw [e, List.length_append]
    simp only [outP, List.length_map, List.length_cons]
    rw [Nat.add_mul]
    omega

theorem cellOne (wr : World) (o1 : Obj) (x : Value) (t : TypeId) : ∀ (j : Nat) (u : Value), [x][j]? = some u → ((wr.alloc o1).alloc (.cells #[x] t)).cell? ((⟨wr.heap.size + 1, 0, none⟩ : Addr).add j) = some u := by
  intro j u hj
  match j, hj with
  | 0, hj =>
    simp at hj
    subst hj
    have := Blk.new (wr.alloc o1) #[x] t
    rw [World.size_alloc] at this
    exact this.at1
theorem oneStr (x : ByteArray) : ∀ u ∈ [Value.string x], u.oneCell' = true := by
  intro u hu
  rw [List.mem_singleton] at hu
  subst hu
  rfl

set_option maxRecDepth 10000 in
set_option maxHeartbeats 2000000 in
theorem lines_any (s : ByteArray) (cells : Int) (w : World) (T : Tabs w) (M : TabM w) (hs : s.size ≤ 1048576) :
    Calls Tryz.prog 145 #[.string s, .int .i64 cells] w fun e w' => ∃ v, e = .returned (.tuple #[v, .int .i64 (widL (paras s) (roomOf cells) 0)]) ∧
      w'.ownsRow w.heap.size 9 1 v (outL (paras s) (roomOf cells)).length ((outL (paras s) (roomOf cells)).map Value.string) ∧ Below w.heap.size w w' := by
  obtain ⟨room, hroom⟩ : ∃ room, room = roomOf cells := ⟨_, rfl⟩
  rw [← hroom]
  have HT : Hid (Tabs w ∧ TabM w) := ⟨T, M⟩
  obtain ⟨ps, hps⟩ : ∃ ps, ps = paras s := ⟨_, rfl⟩
  have HP : Hid (ps = paras s ∧ ps.length ≤ 1048578 ∧ (∀ p ∈ ps, p.size ≤ 1048576)) := by
    refine ⟨hps, ?_, fun p hp => ?_⟩
    · rw [hps, paras_len]; have := count_le s; omega
    · rw [hps] at hp; have := paras_size hp; omega
  have hsp := split_any s w M hs
  rw [← hps] at hsp ⊢
  have hlen : ps.length ≤ 1048578 := HP.out.2.1
  clear hps T M
  have HSp : Hid (Calls Tryz.prog 150 #[.string s, .string nl] w fun e w' => e = .returned (.slice (some ⟨w.heap.size, 0, none⟩) ps.length ps.length) ∧ w' = w.alloc (.cells (ps.map Value.string).toArray 9)) := hsp
  clear hsp
  obtain ⟨i0, hi, hz0, hz1, hz2⟩ := info_parts info_string
  have HI : Hid (Tryz.prog.info? 9 = some i0 ∧ i0.zero = some (.string ByteArray.empty) ∧ i0.size = 1 ∧ i0.bytes = 16) := ⟨hi, hz0, hz1, hz2⟩
  clear hi hz0 hz1 hz2
  rcases (show cells < 1 ∨ ¬ cells < 1 by omega) with hc | hc
  all_goals first
    | (have hr : room = cells := by rw [hroom, roomOf, if_neg hc]
       clear hroom
       subst hr
       go_enter Tryz.func145, Tryz.ntmps145
       go_wp2_with fail
       refine HSp.out.mono ?_
       rintro e w1 ⟨rfl, rfl⟩
       go_wp2_with fail)
    | (have hr : (9223372036854775807 : Int) = room := by rw [hroom, roomOf, if_pos hc]
       have HR : Hid ((9223372036854775807 : Int) = room) := hr
       clear hroom hr
       go_enter Tryz.func145, Tryz.ntmps145
       go_wp2_with fail
       rw [HR.out]
       clear HR
       refine HSp.out.mono ?_
       rintro e w1 ⟨rfl, rfl⟩
       go_wp2_with fail)
  all_goals
    obtain ⟨W, hW⟩ : ∃ W, W = w.alloc (.cells (ps.map Value.string).toArray 9) := ⟨_, rfl⟩
    have kP : Blk W w.heap.size (ps.map Value.string).toArray 9 := by rw [hW]; exact Blk.new w _ _
    have bW : Below w.heap.size w W := by rw [hW]; exact (Below.refl _ w).alloc (Nat.le_refl _) _
    rw [← hW]
    clear hW HSp
    go_loopw [7, 8, 19] (fun v m i wr => ∃ k : Nat, k ≤ ps.length ∧ i = .int .i64 k ∧ m = .int .i64 (widL (ps.take k) room 0) ∧ wr.ownsRow (w.heap.size + 1) 9 1 v (outL (ps.take k) room).length ((outL (ps.take k) room).map Value.string) ∧ Blk wr w.heap.size (ps.map Value.string).toArray 9 ∧ Below w.heap.size w wr) (fun _ _ i _ => ps.length - (intOf i).toNat)
    case atStart => exact ⟨0, Nat.zero_le _, rfl, by simp [widL], by simpa [outL] using World.ownsRow_nil _ _ _ _, kP, bW⟩
    case round =>
      obtain ⟨k, hk, rfl, rfl, hown, kPr, hbr⟩ := hrel
      clear kP bW
      by_cases hlt : k < ps.length
      · obtain ⟨p, hp⟩ : ∃ p, p = ps[k] := ⟨_, rfl⟩
        have hpm : p ∈ ps := by rw [hp]; exact List.getElem_mem hlt
        have hpz : p.size ≤ 1048576 := HP.out.2.2 p hpm
        have htk : ps.take (k + 1) = ps.take k ++ [p] := by rw [hp]; exact List.take_succ_eq_append_getElem hlt
        have cP : wr.cell? ⟨w.heap.size, k, none⟩ = some (.string p) := by rw [kPr.cell k]; simp [hlt, hp]
        obtain ⟨os, hos⟩ : ∃ os, os = outL (ps.take k) room := ⟨_, rfl⟩
        obtain ⟨mm, hmm⟩ : ∃ mm, mm = widL (ps.take k) room 0 := ⟨_, rfl⟩
        have hosl : os.length ≤ 1048578 * 3145729 := by
          rw [hos]
          have h1 := outL_len room 1048576 (ps.take k) (fun q hq => HP.out.2.2 q (List.mem_of_mem_take hq))
          have h2 : (ps.take k).length ≤ 1048578 := by rw [List.length_take]; omega
          exact Nat.le_trans h1 (Nat.mul_le_mul h2 (by omega))
        rw [← hos] at hown
        rw [← hmm]
        have HO : Hid (os = outL (ps.take k) room ∧ mm = widL (ps.take k) room 0 ∧ ps.take (k + 1) = ps.take k ++ [p] ∧ wr.ownsRow (w.heap.size + 1) 9 1 u7 (os.length) (os.map Value.string) ∧ Blk wr w.heap.size (ps.map Value.string).toArray 9 ∧ Below w.heap.size w wr) := ⟨hos, hmm, htk, hown, kPr, hbr⟩
        have HTr : Hid (Tabs wr) := HT.out.1.below hbr
        clear hos hmm htk hown kPr hbr hp hpm
        go_wp2_with fail
        refine (folded_any p room wr HTr.out (by unfold Short; omega)).mono ?_
        rintro e w2 ⟨v2, rfl, own2, hb2⟩
        obtain ⟨ls, hls⟩ : ∃ ls, ls = linesOf p room := ⟨_, rfl⟩
        have hll := lines_len p room
        have hli : ∀ l ∈ ls, InL p.size l := fun l hl => lines_in p room l (by rw [← hls]; exact hl)
        rw [← hls] at own2 hll
        obtain ⟨g, cap, cur, rfl, kg, hcap, hcur⟩ : ∃ g cap cur, v2 = .slice (some ⟨g, 0, none⟩) ls.length cap ∧ Blk w2 g cur 456 ∧ ls.length ≤ cap ∧ cur.toList.take (ls.length * 5) = flatL ls := by
          obtain ⟨_, h | ⟨g, cap, cur, h1, _, h2, h3, _, _, h4⟩⟩ := own2
          · omega
          · exact ⟨g, cap, cur, h1, h2, h3, h4⟩
        have HG : Hid (ls = linesOf p room ∧ (∀ l ∈ ls, InL p.size l) ∧ cur.toList.take (ls.length * 5) = flatL ls ∧ Blk w2 g cur 456 ∧ Below wr.heap.size wr w2) := ⟨hls, hli, hcur, kg, hb2⟩
        have hl1 : ls.length ≤ 3145729 := by omega
        clear own2 hli hcur kg hb2 hls hll cP
        go_wp2_with fail
        obtain ⟨wo, hwo⟩ : ∃ wo : World, wo = w2 := ⟨_, rfl⟩
        go_loopw [7, 8, 27] (fun v m i wq => ∃ t : Nat, t ≤ ls.length ∧ i = .int .i64 t ∧ m = .int .i64 (widJ (ls.take t) mm) ∧ wq.ownsRow (w.heap.size + 1) 9 1 v (os.length + t) ((os ++ outJ p (ls.take t)).map Value.string) ∧ Blk wq w.heap.size (ps.map Value.string).toArray 9 ∧ Blk wq g cur 456 ∧ Below w.heap.size w wq) (fun _ _ i _ => ls.length - (intOf i).toNat)
        case atStart =>
          obtain ⟨h1, h2, h3, h4, h5, h6⟩ := HO.out
          obtain ⟨g1, g2, g3, g4, g5⟩ := HG.out
          refine ⟨0, Nat.zero_le _, rfl, by simp [widJ], ?_, h5.below g5, g4, h6.trans (g5.mono h6.size)⟩
          simpa [outJ] using row_below h4 g5
        case round =>
          obtain ⟨t, ht, rfl, rfl, hown, kPq, kg, hbq⟩ := hrel
          by_cases hlt2 : t < ls.length
          · obtain ⟨ln, hln⟩ : ∃ ln, ln = ls[t] := ⟨_, rfl⟩
            obtain ⟨x0, x1, x2, x3, x4⟩ := flatL_at ls t hlt2
            rw [← hln] at x0 x1 x2 x3 x4
            have hcell : ∀ (i : Nat) (y : Value), i < ls.length * 5 → (flatL ls)[i]? = some y → wr.cell? ⟨g, i, none⟩ = some y := by
              intro i y hi he
              rw [kg.cell i, ← Array.getElem?_toList, ← he, ← HG.out.2.2.1, List.getElem?_take, if_pos hi]
            have p0 := hcell _ _ (by omega) x0
            have p1 := hcell _ _ (by omega) x1
            have p2 := hcell _ _ (by omega) x2
            have p3 := hcell _ _ (by omega) x3
            have p4 := hcell _ _ (by omega) x4
            have hin : InL p.size ln := HG.out.2.1 ln (by rw [hln]; exact List.getElem_mem hlt2)
            obtain ⟨y1, y2⟩ := hin
            have htk : ls.take (t + 1) = ls.take t ++ [ln] := by rw [hln]; exact List.take_succ_eq_append_getElem hlt2
            have hown1 : ∀ o1 o2, ((wr.alloc o1).alloc o2).ownsRow (w.heap.size + 1) 9 1 u7 (os.length + t) ((os ++ outJ p (ls.take t)).map Value.string) := fun o1 o2 => row_below hown (((Below.refl _ wr).alloc (Nat.le_refl _) o1).alloc (by simp) o2)
            obtain ⟨mt, hmt⟩ : ∃ mt, mt = widJ (ls.take t) mm := ⟨_, rfl⟩
            rw [← hmt]
            have HQ : Hid (wr.ownsRow (w.heap.size + 1) 9 1 u7 (os.length + t) ((os ++ outJ p (ls.take t)).map Value.string) ∧ Blk wr w.heap.size (ps.map Value.string).toArray 9 ∧ Blk wr g cur 456 ∧ Below w.heap.size w wr ∧ ls.take (t + 1) = ls.take t ++ [ln] ∧ mt = widJ (ls.take t) mm) := ⟨hown, kPq, kg, hbq, htk, hmt⟩
            have Hown : Hid (∀ o1 o2, ((wr.alloc o1).alloc o2).ownsRow (w.heap.size + 1) 9 1 u7 (os.length + t) ((os ++ outJ p (ls.take t)).map Value.string)) := hown1
            have hgl : g < wr.heap.size := kg.lt
            obtain ⟨hi, hz0, hz1, hz2⟩ := HI.out
            have hc3 : Hid (os.length + t + 1 ≤ maxLen) := by unfold Hid maxLen; omega
            have hc4 : Hid ((os.length + t + 1) * 16 ≤ 140737488355328) := by unfold Hid; omega
            have hc5 : Hid (∀ o1 o2, w.heap.size + 1 ≤ ((wr.alloc o1).alloc o2).heap.size) := by intro o1 o2; have := hbq.size; simp; omega
            clear hown1 hown kPq kg hbq htk hmt x0 x1 x2 x3 x4 hcell hln
            go_wp2_with (at_builtin; refine wpList_append_own _ rfl _ _ 225 rfl (w.heap.size + 1) 9 i0 (.string ByteArray.empty) 1 16 Tryz.underlying225 hi hz0 hz1 hz2 rfl (by decide) u7 (os.length + t) ((os ++ outJ p (ls.take t)).map Value.string) rfl (Hown.out _ _) _ 1 1 [.string (p.extract ln.fr ln.to)] rfl rfl (cellOne _ _ _ _) (oneStr _) hc3.out hc4.out (hc5.out _ _) ?_)
            intro v' w3 hown' hgrow hnil
            have R : w3.ownsRow (w.heap.size + 1) 9 1 v' (os.length + (t + 1)) ((os ++ outJ p (ls.take (t + 1))).map Value.string) ∧ Blk w3 w.heap.size (ps.map Value.string).toArray 9 ∧ Blk w3 g cur 456 ∧ Below w.heap.size w w3 ∧ Blk w3 wr.heap.size (lnC ln) 456 := by
              obtain ⟨a1, a2, a3, a4, a5, a6⟩ := HQ.out
              have ar := Hown.out (.cells (lnC ln) 456) (.cells #[.string (p.extract ln.fr ln.to)] 9)
              have b2 : Below wr.heap.size wr ((wr.alloc (.cells (lnC ln) 456)).alloc (.cells #[.string (p.extract ln.fr ln.to)] 9)) := ((Below.refl _ wr).alloc (Nat.le_refl _) _).alloc (by simp) _
              have b4 := a4.trans (b2.mono a4.size)
              refine ⟨?_, row_grown ar hgrow _ _ (.inl (by omega)) (a2.below b2), row_type ar hgrow (by decide) (a3.below b2), b4.grown hgrow b4.size (fun g hg => by have := (row_lt ar g hg).1; omega), row_type ar hgrow (by decide) ((Blk.new wr _ _).alloc _)⟩
              have e : (os ++ outJ p (ls.take (t + 1))).map Value.string = (os ++ outJ p (ls.take t)).map Value.string ++ [.string (p.extract ln.fr ln.to)] := by rw [a5]; simp [outJ]
              rw [e, ← Nat.add_assoc]
              simpa [outJ] using hown'
            have HR3 : Hid (w3.ownsRow (w.heap.size + 1) 9 1 v' (os.length + (t + 1)) ((os ++ outJ p (ls.take (t + 1))).map Value.string) ∧ Blk w3 w.heap.size (ps.map Value.string).toArray 9 ∧ Blk w3 g cur 456 ∧ Below w.heap.size w w3) := ⟨R.1, R.2.1, R.2.2.1, R.2.2.2.1⟩
            obtain ⟨d0, d1, d2, d3, d4⟩ := R.2.2.2.2.at5
            clear R hown' hgrow hnil p0 p1 p2 p3 p4 hi hz0 hz1 hz2
            go_wp2
            obtain ⟨r1, r2, r3, r4⟩ := HR3.out
            obtain ⟨_, _, _, _, a5, a6⟩ := HQ.out
            refine ⟨⟨t + 1, by omega, by go_num, ?_, r1, r2, r3, r4⟩, by simp [intOf]; omega⟩
            rw [a5, a6]; simp [widJ]
          · go_wp2
            go_roundw
            case rel =>
              obtain ⟨h1, h2, h3, h4, h5, h6⟩ := HO.out
              obtain ⟨g1, g2, g3, g4, g5⟩ := HG.out
              have e : ls.take t = ls := List.take_of_length_le (by omega)
              rw [e] at hown
              refine ⟨k + 1, by omega, by go_num, ?_, ?_, kPq, hbq⟩
              · rw [e, h3, widL_snoc, ← h2, widP, ← g1]; rfl
              · rw [h3, outL_snoc, ← h1, outP, ← g1]
                have e2 : (os ++ ls.map fun l => p.extract l.fr l.to).length = os.length + t := by rw [List.length_append, List.length_map]; omega
                rw [e2]
                exact hown
            case measure => simp [intOf]; omega
      · go_wp2
        go_ret2
        have e : ps.take k = ps := List.take_of_length_le (by omega)
        rw [e] at hown
        exact ⟨u7, by rw [e]; rfl, row_weaken hown (by omega), hbr⟩

end Go.Proofs.YtbnbfgkcndomaabGreatDoor
