/-
  The document's rounds.
-/
import Derived.Test.YthnhcphkpffkfaaGreatLC4
import Derived.Test.YthnhcphkpffkfaaGreatLP3
namespace Go.Proofs.YthnhcphkpffkfaaGreat
open Go.RowKit

theorem rowN_const (n : Nat) (z : Int) : rowN n (fun _ => z) = List.replicate n z := by
  unfold rowN
  refine List.ext_getElem (by simp) fun i h1 h2 => by simp
theorem madI_none : madI rs0.m = fun _ => -1 := rfl
/-- Numbers, and by which bounds they were made, in memory. -/
def RW (w : World) (n ga gb : Nat) (wr : World) (s : Rs) : Prop := Nb wr ga (rowN n s.x) ∧ Nb wr gb (rowN n (madI s.m)) ∧ Below w.heap.size w wr
theorem RW.below {w : World} {n ga gb : Nat} {wr wr' : World} {s : Rs} (h : RW w n ga gb wr s) (hb : Below wr.heap.size wr wr') : RW w n ga gb wr' s := ⟨h.1.below hb, h.2.1.below hb, h.2.2.trans (hb.mono h.2.2.size)⟩
theorem RW.put {w : World} {n ga gb : Nat} {wr : World} {s : Rs} (h : RW w n ga gb wr s) (hab : ga ≠ gb) (ha : w.heap.size ≤ ga) (hb : w.heap.size ≤ gb) (B i : Nat) (z : Int) :
    RW w n ga gb ((wr.setCell ⟨ga, B, none⟩ (.int .i64 z)).setCell ⟨gb, B, none⟩ (.int .i64 i)) ⟨setN s.x B z, setN s.m B (some i), some B⟩ := by
  refine ⟨?_, ?_, (h.2.2.setCell (p := ⟨ga, B, none⟩) ha _).setCell (p := ⟨gb, B, none⟩) hb _⟩
  · show Nb _ ga (rowN n (setN s.x B z))
    rw [← rowN_set]
    exact (h.1.put B z).other _ _ (fun e => hab e.symm)
  · show Nb _ gb (rowN n (madI (setN s.m B (some i))))
    rw [madI_set, ← rowN_set]
    exact (h.2.1.other ⟨ga, B, none⟩ _ hab).put B i
theorem RW.at {w : World} {n ga gb : Nat} {wr : World} {s : Rs} (h : RW w n ga gb wr s) {k : Nat} (hk : k < n) : wr.cell? ⟨ga, k, none⟩ = some (.int .i64 (s.x k)) ∧ wr.cell? ⟨gb, k, none⟩ = some (.int .i64 (madI s.m k)) := by
  constructor
  · rw [h.1.at k (by rw [rowN_len]; exact hk)]
    simp [rowN]
  · rw [h.2.1.at k (by rw [rowN_len]; exact hk)]
    simp [rowN]
/-- A bound that may be, as numbers from 0 on. -/
theorem bound_at {n : Nat} {L : List Bq} (hk : ∀ q ∈ L, okQ n q = true) {i : Nat} (hi : i < L.length) : ∃ (A B : Nat) (f : Int), A < n ∧ B < n ∧ -1048576 ≤ f ∧ f ≤ 1048576 ∧ L[i] = ⟨(A : Int), (B : Int), f⟩ ∧ (nat L)[i]? = some ⟨A, B, f⟩ := by
  have h := (okQ_iff _ _).1 (hk L[i] (List.getElem_mem hi))
  obtain ⟨h1, h2, h3, h4, h5, h6⟩ := h
  refine ⟨L[i].a.toNat, L[i].b.toNat, L[i].f, by omega, by omega, h5, h6, ?_, nat_at L i hi⟩
  rw [Int.toNat_of_nonneg h1, Int.toNat_of_nonneg h3]
theorem nat_far {n : Nat} {L : List Bq} (hk : ∀ q ∈ L, okQ n q = true) : Far (nat L) := by
  intro b hb
  obtain ⟨q, hq, rfl⟩ := List.mem_map.1 hb
  have h := (okQ_iff _ _).1 (hk q hq)
  exact ⟨h.2.2.2.2.1, h.2.2.2.2.2⟩
theorem nat_abt {n : Nat} {L : List Bq} (hk : ∀ q ∈ L, okQ n q = true) : Abt n (nat L) := by
  intro b hb
  obtain ⟨q, hq, rfl⟩ := List.mem_map.1 hb
  have h := (okQ_iff _ _).1 (hk q hq)
  show q.a.toNat < n ∧ q.b.toNat < n
  omega

set_option maxRecDepth 10000 in
set_option maxHeartbeats 4000000 in
theorem rounds_any (n : Nat) (L : List Bq) (v : Value) (w : World) (hv : BS w v L) (hn : n ≤ 4096) (hL : L.length ≤ 4096) (hk : ∀ q ∈ L, okQ n q = true) :
    Calls Tryz.prog 84 #[.int .i64 n, v] w fun e w' => ∃ ga gb, e = .returned (.tuple #[.slice (some ⟨ga, 0, none⟩) n n, .slice (some ⟨gb, 0, none⟩) n n, .int .i64 (lasI (rds (nat L) n rs0).l)]) ∧ Hid (RW w n ga gb w' (rds (nat L) n rs0) ∧ ga ≠ gb ∧ w.heap.size ≤ ga ∧ w.heap.size ≤ gb) := by
  obtain ⟨oa, cap, rfl, hc, hg⟩ := hv
  have HG : Hid (0 < L.length → ∃ g o, oa = some ⟨g, o, none⟩ ∧ g < w.heap.size ∧ ∀ i (h : i < L.length), BqAt w g (o + i * 3) L[i]) := hg
  have HK : Hid (∀ i (h : i < L.length), ∃ (A B : Nat) (f : Int), A < n ∧ B < n ∧ -1048576 ≤ f ∧ f ≤ 1048576 ∧ L[i] = ⟨(A : Int), (B : Int), f⟩ ∧ (nat L)[i]? = some ⟨A, B, f⟩) := fun i h => bound_at hk h
  have HFa : Hid (Far (nat L)) := nat_far hk
  have HNl : Hid ((nat L).length = L.length) := nat_len L
  clear hk hg
  obtain ⟨S, HS⟩ : ∃ S, Hid (S = rds (nat L) n rs0) := ⟨rds (nat L) n rs0, by unfold Hid; rfl⟩
  rw [← HS.out]
  obtain ⟨arr, ha, hmk⟩ := make_ints n (by omega) w
  obtain ⟨arr2, ha2, hmk2⟩ := make_ints n (by omega) (w.alloc (.cells arr 3))
  have HA : Hid (Nb ((w.alloc (.cells arr 3)).alloc (.cells arr2 3)) w.heap.size (List.replicate n 0) ∧ Nb ((w.alloc (.cells arr 3)).alloc (.cells arr2 3)) (w.heap.size + 1) (fill n 0) ∧ Below w.heap.size w ((w.alloc (.cells arr 3)).alloc (.cells arr2 3))) := by
    refine ⟨?_, ?_, ((Below.refl _ _).alloc (Nat.le_refl _) _).alloc (by simp) _⟩
    · rw [ha]; exact (Bk.new w _ _).alloc _
    · rw [ha2]
      have := Bk.new (w.alloc (.cells arr 3)) (flatI (List.replicate n 0)).toArray 3
      rw [World.size_alloc] at this
      have e : fill n 0 = List.replicate n 0 := by simp [fill]
      rw [e]
      exact this
  rw [World.size_alloc] at hmk2
  clear ha ha2
  go_enter Tryz.func84, Tryz.ntmps84
  go_wp2_with fail
  generalize (w.alloc (.cells arr 3)).alloc (.cells arr2 3) = W0 at *
  obtain ⟨ga, Hga⟩ : ∃ ga, Hid (ga = w.heap.size) := ⟨w.heap.size, by unfold Hid; rfl⟩
  obtain ⟨gb, Hgb⟩ : ∃ gb, Hid (gb = w.heap.size + 1) := ⟨w.heap.size + 1, by unfold Hid; rfl⟩
  rw [← Hgb.out, ← Hga.out]
  have H0 : Hid (Nb W0 ga (List.replicate n 0) ∧ Nb W0 gb (fill n 0) ∧ Below w.heap.size w W0) := by rw [Hga.out, Hgb.out]; exact HA.out
  have Hab : Hid (ga ≠ gb ∧ w.heap.size ≤ ga ∧ w.heap.size ≤ gb) := ⟨by rw [Hga.out, Hgb.out]; omega, by rw [Hga.out]; exact Nat.le_refl _, by rw [Hgb.out]; omega⟩
  clear HA hmk hmk2 Hga Hgb
  go_loopw [9] (fun i wr => ∃ k : Nat, i = .int .i64 k ∧ k ≤ n ∧ Hid (Nb wr ga (List.replicate n 0) ∧ Nb wr gb (fill n k) ∧ Below w.heap.size w wr)) (fun i _ => n - (intOf i).toNat)
  case atStart => exact ⟨0, rfl, Nat.zero_le _, H0⟩
  case round =>
    obtain ⟨k, rfl, hk, HR⟩ := hrel
    clear H0
    by_cases hlt : k < n
    · have ik : (k : Int) < n := by omega
      have c0 : ∃ z, wr.cell? ⟨gb, k, none⟩ = some z := ⟨_, HR.out.2.1.at k (by rw [fill_len hk]; exact hlt)⟩
      obtain ⟨z, c0⟩ := c0
      have f0 := HR.out.2.1.frozen k
      have HN : Hid (Nb (wr.setCell ⟨gb, k, none⟩ (.int .i64 (-1))) ga (List.replicate n 0) ∧ Nb (wr.setCell ⟨gb, k, none⟩ (.int .i64 (-1))) gb (fill n (k + 1)) ∧ Below w.heap.size w (wr.setCell ⟨gb, k, none⟩ (.int .i64 (-1)))) := by
        refine ⟨HR.out.1.other _ _ (fun e => Hab.out.1 e.symm), ?_, HR.out.2.2.setCell (p := ⟨gb, k, none⟩) Hab.out.2.2 _⟩
        have q := HR.out.2.1.put k (-1)
        have e : (fill n k).set k (-1) = fill n (k + 1) := by
          unfold fill
          obtain ⟨m, hm⟩ : ∃ m, n - k = m + 1 := ⟨n - k - 1, by omega⟩
          rw [hm, show n - (k + 1) = m by omega, List.set_append_right _ _ (by simp), List.length_replicate, Nat.sub_self, List.replicate_succ, List.set_cons_zero, List.replicate_succ', List.append_assoc]
          rfl
        rwa [e] at q
      clear HR
      go_wp2
      exact ⟨⟨k + 1, by go_num, by omega, HN⟩, by simp [intOf]; omega⟩
    · obtain rfl : k = n := by omega
      have HD : Hid (Di (nat L) k 0 rs0 ∧ RW w k ga gb wr rs0) := by
        refine ⟨di_start k, ?_, ?_, HR.out.2.2⟩
        · show Nb wr ga (rowN k (fun _ => 0))
          rw [rowN_const]; exact HR.out.1
        · rw [madI_none, rowN_const, ← fill_end]; exact HR.out.2.1
      clear HR
      go_wp2_with fail
      go_loopw [10, 11] (fun l i wr => ∃ (r : Nat) (s : Rs), i = .int .i64 r ∧ l = .int .i64 (lasI s.l) ∧ r ≤ k ∧ Hid (Di (nat L) k r s ∧ RW w k ga gb wr s)) (fun _ i _ => k - (intOf i).toNat)
      case atStart => exact ⟨0, rs0, rfl, rfl, Nat.zero_le _, HD⟩
      case round =>
        obtain ⟨r, s, rfl, rfl, hr, HR⟩ := hrel
        clear HD
        by_cases hrk : r < k
        · have irk : (r : Int) < k := by omega
          have HE : Hid (Ei (nat L) k r s ⟨s.x, s.m, none⟩ 0 ∧ RW w k ga gb wr ⟨s.x, s.m, none⟩) := ⟨ei_start HR.out.1, HR.out.2⟩
          have HDi : Hid (Di (nat L) k r s) := HR.out.1
          clear HR
          go_wp2_with fail
          go_loopw [10, 12] (fun l i wr => ∃ (j : Nat) (c : Rs), i = .int .i64 j ∧ l = .int .i64 (lasI c.l) ∧ j ≤ L.length ∧ Hid (Ei (nat L) k r s c j ∧ RW w k ga gb wr c)) (fun _ i _ => L.length - (intOf i).toNat)
          case atStart => exact ⟨0, ⟨s.x, s.m, none⟩, rfl, rfl, Nat.zero_le _, HE⟩
          case round =>
            obtain ⟨j, c, rfl, rfl, hj, HR⟩ := hrel
            clear HE
            by_cases hjl : j < L.length
            · have ij : (j : Int) < L.length := by omega
              obtain ⟨g, o, rfl, hgl, hat⟩ := HG.out (by omega)
              obtain ⟨A, B, f, hA, hB, hf1, hf2, hq, hnq⟩ := HK.out j hjl
              have hx := (hat j hjl).below HR.out.2.2.2 hgl
              rw [hq] at hx
              obtain ⟨x0, x1, x2⟩ := hx
              simp only at x0 x1 x2
              obtain ⟨y0, _⟩ := HR.out.2.at hA
              obtain ⟨y1, z1⟩ := HR.out.2.at hB
              have iA : (A : Int) < k := by omega
              have iB : (B : Int) < k := by omega
              have lga := HR.out.2.1.lt
              have lgb := HR.out.2.2.1.lt
              have hgr : g < wr.heap.size := Nat.lt_of_lt_of_le hgl HR.out.2.2.2.size
              have hab : ¬ ga = gb := Hab.out.1
              have hba : ¬ gb = ga := fun e => Hab.out.1 e.symm
              have na1 : ¬ ga = wr.heap.size := by omega
              have na2 : ¬ wr.heap.size = ga := by omega
              have nb1 : ¬ gb = wr.heap.size := by omega
              have nb2 : ¬ wr.heap.size = gb := by omega
              have fa := HR.out.2.1.frozen B
              have fb := HR.out.2.2.1.frozen B
              have b1 := HR.out.1.nz A
              have b2 := HR.out.1.bd A
              have HW : Hid (∀ o m, RW w k ga gb ((wr.alloc o).drewN m) c) := fun o m => HR.out.2.below (below_drewK ((Below.refl _ _).alloc (Nat.le_refl _) o))
              have hnl : j < (nat L).length := by rw [HNl.out]; exact hjl
              have hnq' : (nat L)[j] = ⟨A, B, f⟩ := by
                rw [List.getElem?_eq_getElem hnl] at hnq
                injection hnq
              by_cases hch : c.x B < c.x A + f
              · have HN : Hid (Ei (nat L) k r s ⟨setN c.x B (c.x A + f), setN c.m B (some j), some B⟩ (j + 1)) := by
                  have q := ei_change HR.out.1 hnl HFa.out (by rw [hnq']; exact hch)
                  rw [hnq'] at q
                  exact q
                clear HR hat hq hnq hnq' hnl
                generalize c.x A = xa at *
                generalize c.x B = xb at *
                have HP : Hid (∀ o m, RW w k ga gb ((((wr.alloc o).drewN m).setCell ⟨ga, B, none⟩ (.int .i64 (xa + f))).setCell ⟨gb, B, none⟩ (.int .i64 j)) ⟨setN c.x B (xa + f), setN c.m B (some j), some B⟩) := fun o m => (HW.out o m).put Hab.out.1 Hab.out.2.1 Hab.out.2.2 B j (xa + f)
                go_wp2_with fail
                go_quiet (fail)
                go_wp2_with fail
                go_region
                all_goals
                  go_wp2
                  exact ⟨⟨j + 1, ⟨setN c.x B (xa + f), setN c.m B (some j), some B⟩, by go_num, rfl, by omega, HN.out, HP.out _ _⟩, by simp [intOf]; omega⟩
              · have HN : Hid (Ei (nat L) k r s c (j + 1)) := ei_same HR.out.1 hnl (by rw [hnq']; exact hch)
                clear HR hat hq hnq hnq' hnl
                generalize c.x A = xa at *
                generalize c.x B = xb at *
                go_wp2_with fail
                go_quiet (fail)
                go_wp2
                exact ⟨⟨j + 1, c, by go_num, rfl, by omega, HN.out, HW.out _ _⟩, by simp [intOf]; omega⟩
            · obtain rfl : j = L.length := by omega
              have HE2 : Hid (Ei (nat L) k r s c (nat L).length ∧ RW w k ga gb wr c) := by rw [HNl.out]; exact HR.out
              clear HR
              cases hcl : c.l with
              | none =>
                have HF : Hid (RW w k ga gb wr S) := by
                  unfold Hid
                  rw [HS.out, ei_stop HDi.out hrk HE2.out.1 hcl]
                  exact HE2.out.2
                have HSl : Hid (lasI S.l = -1) := by
                  unfold Hid
                  rw [HS.out, ei_stop HDi.out hrk HE2.out.1 hcl, hcl]; rfl
                have e : lasI none = -1 := rfl
                rw [e]
                clear HE2 hcl
                go_wp2
                go_ret3
                exact ⟨ga, gb, by rw [HSl.out]; rfl, HF.out, Hab.out⟩
              | some x =>
                have HN : Hid (Di (nat L) k (r + 1) c ∧ RW w k ga gb wr c) := ⟨ei_next HDi.out hrk HE2.out.1 (by rw [hcl]; simp) (by rw [HNl.out]; exact hL), HE2.out.2⟩
                have e : lasI (some x) = x := rfl
                have HL2 : Hid (lasI c.l = x) := by unfold Hid; rw [hcl]; rfl
                have ix : ¬ (x : Int) < 0 := by omega
                rw [e]
                clear HE2 hcl
                go_wp2
                exact ⟨⟨r + 1, c, by go_num, by rw [HL2.out], by omega, HN⟩, by simp [intOf]; omega⟩
        · obtain rfl : r = k := by omega
          have HF : Hid (RW w r ga gb wr S ∧ lasI S.l = lasI s.l) := by
            unfold Hid
            rw [HS.out, di_end HR.out.1]
            exact ⟨HR.out.2, rfl⟩
          clear HR
          go_wp2
          go_ret3
          exact ⟨ga, gb, by rw [HF.out.2]; rfl, HF.out.1, Hab.out⟩

end Go.Proofs.YthnhcphkpffkfaaGreat
