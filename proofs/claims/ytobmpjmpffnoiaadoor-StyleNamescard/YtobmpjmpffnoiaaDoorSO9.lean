/-
  slices.SortStableFunc over numbers: what it makes.
-/
import Derived.Test.YtobmpjmpffnoiaaDoorSO7
import Derived.Test.YtobmpjmpffnoiaaDoorSO8
namespace Go.Proofs.YtobmpjmpffnoiaaDoor
open Go.RowKit

set_option maxRecDepth 200000 in
set_option maxHeartbeats 2000000 in
theorem stable_any (s : Nat → Int) (N B o n cap g : Nat) (cb : Array Value) (w : World) (hC : Cmps s N B g cb w) (eg : ∀ args w, (callFunc g args).run Tryd.prog w = .ok (.enter g args) w) (hn : n < 1000000)
    (f : Nat → Nat) (hR : Row w B o n f) (hN : ∀ i, i < n → f i < N) (hup : ∀ i j, i < j → j < n → f i < f j) :
    Calls Tryd.prog 59 #[.slice (some ⟨B, o, none⟩) n cap, .int .i64 n, .func (.func g) #[] cb] w fun e w' => e = .returned (.tuple #[]) ∧ ∃ f', Row w' B o n f' ∧ Mrg s f f' 0 n ∧ Ex B w w' := by
  have HI : Hid (∀ (f : Nat → Nat) (a b : Nat) (W : World), Ex B w W → Row W B o n f → (∀ i, i < n → f i < N) → a ≤ b → b ≤ n → (∀ i j, a ≤ i → i < j → j < b → f i < f j) → Calls Tryd.prog 64 #[.slice (some ⟨B, o, none⟩) n cap, .int .i64 a, .int .i64 b, .func (.func g) #[] cb] W fun e w' => e = .returned (.tuple #[]) ∧ ∃ f', Row w' B o n f' ∧ Mrg s f f' a b ∧ Ex B W w') :=
    fun f a b W h1 h2 h3 h4 h5 h6 => insertion_any s N B o n cap g cb f a b w W hC h1 eg h2 h3 hn h4 h5 h6
  have HS : Hid (Merges s N B o n cap g cb w n) := sym_any s N B o n cap g cb w hC eg hn n
  have H0 : Hid (Row w B o n f ∧ (∀ i, i < n → f i < N) ∧ InsP s f n 0) := ⟨hR, hN, InsP.start hup⟩
  clear hR hN hup hC
  go_enter Tryd.func59, Tryd.ntmps59
  go_wp2_with fail
  go_loopw [7, 8] (fun va vb wr => ∃ (a b : Nat) (cur : Nat → Nat), va = .int .i64 a ∧ vb = .int .i64 b ∧ a ≤ n ∧ Hid (b = a + 20 ∧ 20 ∣ a ∧ Row wr B o n cur ∧ (∀ i, i < n → cur i < N) ∧ InsP s cur n a ∧ Perm f cur 0 n ∧ Ex B w wr)) (fun va _ _ => n - (intOf va).toNat)
  case atStart => exact ⟨0, 20, f, rfl, rfl, Nat.zero_le _, ⟨rfl, Nat.dvd_zero _, H0.out.1, H0.out.2.1, H0.out.2.2, Perm.refl _ _ _, Ex.refl _ _⟩⟩
  case round =>
    obtain ⟨a, b, cur, rfl, rfl, han, HC⟩ := hrel
    have eb : a < b ∧ b ≤ a + 20 ∧ a + 20 ≤ b := by have := HC.out.1; omega
    obtain ⟨eb1, eb2, eb3⟩ := eb
    have EB : Hid (b = a + 20) := HC.out.1
    clear eb2 eb3
    by_cases hlt : b ≤ n
    · obtain ⟨c, ec⟩ : ∃ c, c = b + 20 := ⟨_, rfl⟩
      have b1 : (b : Int) + 20 = (c : Int) := by omega
      have EC : Hid (c = b + 20) := ec
      clear ec
      have bl : (b : Int) < 1000000 := by omega
      go_wp2_with fail
      refine (HI.out cur a b wr HC.out.2.2.2.2.2.2 HC.out.2.2.1 HC.out.2.2.2.1 (by omega) hlt (fun i j i1 i2 i3 => HC.out.2.2.2.2.1.asc i j i1 i2 (by omega))).mono ?_
      rintro e w1 ⟨rfl, f1, R1, M1, X1⟩
      have H1 : Hid (c = b + 20 ∧ 20 ∣ b ∧ Row w1 B o n f1 ∧ (∀ i, i < n → f1 i < N) ∧ InsP s f1 n b ∧ Perm f f1 0 n ∧ Ex B w w1) := by
        obtain ⟨e1, e2, e3, e4, e5, e6, e7⟩ := HC.out
        subst e1
        exact ⟨EC.out, (Nat.dvd_add_right e2).2 (Nat.dvd_refl _), R1, M1.2.bound hlt e4, e5.step e2 hlt M1, e6.trans (M1.2.wide (Nat.zero_le _) hlt), e7.trans X1⟩
      clear R1 M1 X1
      go_wp2
      go_roundw
      case rel => exact ⟨b, c, f1, rfl, rfl, hlt, H1⟩
      case measure => simp [intOf]; omega
    · go_wp2_with fail
      refine (HI.out cur a n wr HC.out.2.2.2.2.2.2 HC.out.2.2.1 HC.out.2.2.2.1 han (Nat.le_refl _) (fun i j i1 i2 i3 => HC.out.2.2.2.2.1.asc i j i1 i2 i3)).mono ?_
      rintro e w1 ⟨rfl, f1, R1, M1, X1⟩
      have H1 : Hid (Row w1 B o n f1 ∧ (∀ i, i < n → f1 i < N) ∧ Bs s f1 20 n ∧ Perm f f1 0 n ∧ Ex B w w1) := by
        obtain ⟨e1, e2, e3, e4, e5, e6, e7⟩ := HC.out
        exact ⟨R1, M1.2.bound (Nat.le_refl _) e4, e5.last e2 (by have := EB.out; omega) han M1, e6.trans (M1.2.wide (Nat.zero_le _) (Nat.le_refl _)), e7.trans X1⟩
      clear R1 M1 X1
      clear HC
      go_wp2_with fail
      go_loopw [6] (fun vk wr => ∃ (k : Nat) (cur : Nat → Nat), vk = .int .i64 k ∧ 0 < k ∧ k < 2000000 ∧ Hid (Row wr B o n cur ∧ (∀ i, i < n → cur i < N) ∧ Bs s cur k n ∧ Perm f cur 0 n ∧ Ex B w wr)) (fun vk _ => n - (intOf vk).toNat)
      case atStart => exact ⟨20, f1, rfl, by decide, by decide, H1⟩
      case round =>
        obtain ⟨k, cur, rfl, k0, k9, HK⟩ := hrel
        clear H1
        by_cases hk : k < n
        · obtain ⟨k2, ek2⟩ : ∃ k2, k2 = 2 * k := ⟨_, rfl⟩
          have z1 : 2 * (k : Int) = (k2 : Int) := by omega
          have z1' : (k : Int) * 2 = (k2 : Int) := by omega
          have k3 : k < k2 := by omega
          have k4 : k2 < 2000000 := by omega
          have EK : Hid (k2 = 2 * k) := ek2
          clear ek2
          go_wp2_with fail
          go_loopw [7, 8] (fun va vb wz => ∃ (a b : Nat) (cu : Nat → Nat), va = .int .i64 a ∧ vb = .int .i64 b ∧ a ≤ n ∧ Hid (b = a + k2 ∧ 2 * k ∣ a ∧ Row wz B o n cu ∧ (∀ i, i < n → cu i < N) ∧ Half s cu k n a ∧ Perm f cu 0 n ∧ Ex B w wz)) (fun va _ _ => n - (intOf va).toNat)
          case atStart => exact ⟨0, k2, cur, rfl, rfl, Nat.zero_le _, ⟨(Nat.zero_add _).symm, Nat.dvd_zero _, HK.out.1, HK.out.2.1, Half.start HK.out.2.2.1, HK.out.2.2.2.1, HK.out.2.2.2.2⟩⟩
          case round =>
            obtain ⟨a, b, cu, rfl, rfl, han, HC⟩ := hrel
            clear HK
            have eb : a < b := by have := HC.out.1; omega
            have EB : Hid (b = a + k2 ∧ 2 * k ∣ a) := ⟨HC.out.1, HC.out.2.1⟩
            obtain ⟨m1, em⟩ : ∃ m1, m1 = a + k := ⟨_, rfl⟩
            have zm : (a : Int) + (k : Int) = (m1 : Int) := by omega
            have am : a < m1 := by omega
            have EM : Hid (m1 = a + k) := em
            clear em
            by_cases hlt : b ≤ n
            · obtain ⟨c, ec⟩ : ∃ c, c = b + k2 := ⟨_, rfl⟩
              have b1 : (b : Int) + (k2 : Int) = (c : Int) := by omega
              have EC : Hid (c = b + k2) := ec
              clear ec
              have bl : (b : Int) < 1000000 := by omega
              have HO : Hid (Srt s cu a m1 ∧ Srt s cu m1 b ∧ Lo cu a m1 b ∧ m1 < b) := by
                have h1 := EM.out
                have h2 := EB.out.1
                have h3 := EK.out
                obtain ⟨o1, o2, o3⟩ := HC.out.2.2.2.2.1.one (b := b) EB.out.2 (by omega) hlt (by omega)
                rw [h1]
                exact ⟨o1, o2, o3, by omega⟩
              go_wp2_with fail
              refine (HS.out cu a m1 b wr (by omega) HC.out.2.2.2.2.2.2 HC.out.2.2.1 HC.out.2.2.2.1 am HO.out.2.2.2 hlt HO.out.1 HO.out.2.1 HO.out.2.2.1).mono ?_
              rintro e w2 ⟨rfl, f2, R2, M2, X2⟩
              have H2 : Hid (c = b + k2 ∧ 2 * k ∣ b ∧ Row w2 B o n f2 ∧ (∀ i, i < n → f2 i < N) ∧ Half s f2 k n b ∧ Perm f f2 0 n ∧ Ex B w w2) := by
                obtain ⟨e1, e2, e3, e4, e5, e6, e7⟩ := HC.out
                have h3 := EK.out
                subst h3
                subst e1
                exact ⟨EC.out, (Nat.dvd_add_right e2).2 (Nat.dvd_refl _), R2, M2.2.bound hlt e4, e5.step e2 hlt M2, e6.trans (M2.2.wide (Nat.zero_le _) hlt), e7.trans X2⟩
              clear R2 M2 X2
              go_wp2
              go_roundw
              case rel => exact ⟨b, c, f2, rfl, rfl, hlt, H2⟩
              case measure => simp [intOf]; omega
            · by_cases hmn : m1 < n
              · have HO : Hid (Srt s cu a m1 ∧ Srt s cu m1 n ∧ Lo cu a m1 n) := by
                  have h1 := EM.out
                  have h2 := EB.out.1
                  have h3 := EK.out
                  obtain ⟨o1, o2, o3⟩ := HC.out.2.2.2.2.1.one (b := n) EB.out.2 (by omega) (Nat.le_refl _) (by omega)
                  rw [h1]
                  exact ⟨o1, o2, o3⟩
                go_wp2_with fail
                refine (HS.out cu a m1 n wr (by omega) HC.out.2.2.2.2.2.2 HC.out.2.2.1 HC.out.2.2.2.1 am hmn (Nat.le_refl _) HO.out.1 HO.out.2.1 HO.out.2.2).mono ?_
                rintro e w2 ⟨rfl, f2, R2, M2, X2⟩
                have H2 : Hid (Row w2 B o n f2 ∧ (∀ i, i < n → f2 i < N) ∧ Bs s f2 k2 n ∧ Perm f f2 0 n ∧ Ex B w w2) := by
                  obtain ⟨e1, e2, e3, e4, e5, e6, e7⟩ := HC.out
                  have h3 := EK.out
                  subst h3
                  exact ⟨R2, M2.2.bound (Nat.le_refl _) e4, e5.last e2 (by omega) M2, e6.trans (M2.2.wide (Nat.zero_le _) (Nat.le_refl _)), e7.trans X2⟩
                clear R2 M2 X2
                go_wp2
                go_roundw
                case rel => exact ⟨k2, f2, rfl, by omega, k4, H2⟩
                case measure => simp [intOf]; omega
              · have H2 : Hid (Row wr B o n cu ∧ (∀ i, i < n → cu i < N) ∧ Bs s cu k2 n ∧ Perm f cu 0 n ∧ Ex B w wr) := by
                  obtain ⟨e1, e2, e3, e4, e5, e6, e7⟩ := HC.out
                  have h3 := EK.out
                  have h4 := EM.out
                  subst h3
                  exact ⟨e3, e4, e5.last e2 (by omega) (e5.none e2 (by omega) han), e6, e7⟩
                go_wp2
                go_roundw
                case rel => exact ⟨k2, cu, rfl, by omega, k4, H2⟩
                case measure => simp [intOf]; omega
        · go_wp2
          go_end0
          exact ⟨rfl, cur, HK.out.1, ⟨HK.out.2.2.1.all (by omega), HK.out.2.2.2.1⟩, HK.out.2.2.2.2⟩

set_option maxHeartbeats 1000000 in
theorem sort_any (s : Nat → Int) (N B o n cap g : Nat) (cb : Array Value) (w : World) (hC : Cmps s N B g cb w) (eg : ∀ args w, (callFunc g args).run Tryd.prog w = .ok (.enter g args) w) (hn : n < 1000000)
    (f : Nat → Nat) (hR : Row w B o n f) (hN : ∀ i, i < n → f i < N) (hup : ∀ i j, i < j → j < n → f i < f j) :
    Calls Tryd.prog 45 #[.slice (some ⟨B, o, none⟩) n cap, .func (.func g) #[] cb] w fun e w' => e = .returned (.tuple #[]) ∧ ∃ f', Row w' B o n f' ∧ Mrg s f f' 0 n ∧ Ex B w w' := by
  have H := stable_any s N B o n cap g cb w hC eg hn f hR hN hup
  clear hC hR hN hup
  go_enter Tryd.func45, Tryd.ntmps45
  go_wp2_with fail
  refine H.mono ?_
  rintro e w1 ⟨rfl, f1, h1, h2, h3⟩
  go_wp2
  go_end0
  exact ⟨rfl, f1, h1, h2, h3⟩

end Go.Proofs.YtobmpjmpffnoiaaDoor
