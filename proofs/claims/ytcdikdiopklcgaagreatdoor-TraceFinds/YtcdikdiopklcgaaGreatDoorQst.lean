/- The contract of the library's stable sort at keys: blocks by insertion, then merges; no conditions but the row's length. -/
import Derived.Test.YtcdikdiopklcgaaGreatDoorQsc
namespace Go.Proofs.YtcdikdiopklcgaaGreatDoor.So
open Go.RowKit Go.Sort Go.Shelf Me
set_option linter.unusedVariables false

def Rst (bs : Nat) (Y : List K) (a n : Nat) : Prop := ∀ p q, a ≤ p → p < q → q < n → p / bs = q / bs → leK (A Y p) (A Y q)
theorem rst_empty (bs : Nat) (Y : List K) : Rst bs Y 0 0 := fun p q _ _ h _ => by omega
theorem rst_push {bs k a b : Nat} {Y Z : List K} (hb : 0 < bs) (ha : a = k * bs) (h : Rst bs Y 0 a) (m : Mod a b Y Z) (s : SIn Z a b) : Rst bs Z 0 b := fun p q _ h2 h3 h4 => by
  by_cases c : q < a
  · rw [m.out p (by omega), m.out q (by omega)]
    exact h p q (Nat.zero_le _) h2 c h4
  · have e1 : k ≤ q / bs := by rw [Nat.le_div_iff_mul_le hb]; omega
    have e2 : k * bs ≤ p := by rw [← Nat.le_div_iff_mul_le hb]; omega
    exact s p q (by omega) h2 h3
theorem rst_out {bs a b n : Nat} {Y Z : List K} (h : Rst bs Y a n) (m : Mod a b Y Z) (hab : a ≤ b) : Rst bs Z b n := fun p q h1 h2 h3 h4 => by
  rw [m.out p (by omega), m.out q (by omega)]
  exact h p q (by omega) h2 h3 h4
theorem div_at {bs j p : Nat} (h1 : j * bs ≤ p) (h2 : p < (j + 1) * bs) : p / bs = j := by
  have hb : 0 < bs := by
    rcases Nat.eq_zero_or_pos bs with e | e
    · subst e; omega
    · exact e
  have a1 : j ≤ p / bs := by rw [Nat.le_div_iff_mul_le hb]; exact h1
  have a2 : p / bs < j + 1 := by rw [Nat.div_lt_iff_lt_mul hb]; exact h2
  omega
theorem rst_sin {bs j a n u v : Nat} {Y : List K} (h : Rst bs Y a n) (h1 : a ≤ u) (hu : u = j * bs) (h2 : v ≤ u + bs) (h3 : v ≤ n) : SIn Y u v := fun p q q1 q2 q3 => by
  have e : (j + 1) * bs = u + bs := by rw [Nat.succ_mul, hu]
  exact h p q (by omega) q2 (by omega) (by rw [div_at (j := j) (p := p) (by omega) (by omega), div_at (j := j) (p := q) (by omega) (by omega)])
theorem rst_all {bs n : Nat} {Y : List K} (h : Rst bs Y 0 n) (hn : n ≤ bs) : SIn Y 0 n := fun p q q1 q2 q3 => h p q q1 q2 q3 (by rw [Nat.div_eq_of_lt (by omega), Nat.div_eq_of_lt (by omega)])

set_option maxHeartbeats 2000000 in
set_option maxRecDepth 100000 in
theorem stable47 (w0 : World) (g n c : Nat) (L : List K) (w : World) (hn : n ≤ 5864062014634) (R : RW w0 g n c L w) :
    Calls Tryz.prog 78 #[.slice (some ⟨g, 0, none⟩) n c, .int .i64 n, cmpF] w fun e w' => e = .returned (.tuple #[]) ∧ ∃ L', L'.Perm L ∧ SIn L' 0 n ∧ RW w0 g n c L' w' := by
  have HR : Hid (RW w0 g n c L w) := R
  have hc : ∃ F, F = cmpF := ⟨_, rfl⟩
  obtain ⟨F, hF⟩ := hc
  have AI : Hid (∀ (Y : List K) (a b : Nat), a ≤ b → b ≤ n → ∀ w, RW w0 g n c Y w → Calls Tryz.prog 97 #[.slice (some ⟨g, 0, none⟩) n c, .int .i64 a, .int .i64 b, F] w fun e w' => e = .returned (.tuple #[]) ∧ ∃ L', Mod a b Y L' ∧ SIn L' a b ∧ RW w0 g n c L' w') := fun Y a b e1 e2 w r => by rw [hF]; exact ins51 w0 g n c Y a b e1 e2 w hn r
  have AM : Hid (∀ (Y : List K) (a m b : Nat), a < m → m < b → b ≤ n → SIn Y a m → SIn Y m b → ∀ w, RW w0 g n c Y w → Calls Tryz.prog 98 #[.slice (some ⟨g, 0, none⟩) n c, .int .i64 a, .int .i64 m, .int .i64 b, F] w fun e w' => e = .returned (.tuple #[]) ∧ ∃ L', Mod a b Y L' ∧ SIn L' a b ∧ RW w0 g n c L' w') := fun Y a m b e1 e2 e3 s1 s2 w r => by rw [hF]; exact sym52 w0 g n c hn (b - a) Y a m b e1 e2 e3 (Nat.le_refl _) s1 s2 w r
  rw [← hF]
  clear R hF
  go_enter Tryz.func78, Tryz.ntmps78
  go_wp2
  go_loopw [7, 8] (fun x y wr => ∃ (a : Nat) (Y : List K), x = .int .i64 a ∧ (∃ b : Nat, y = .int .i64 b ∧ a + 20 ≤ b ∧ b ≤ a + 20) ∧ a ≤ n ∧ Hid (∃ k, a = k * 20) ∧ Hid (Mod 0 n L Y ∧ Rst 20 Y 0 a) ∧ Hid (RW w0 g n c Y wr)) (fun x _ _ => n - (intOf x).toNat)
  case atStart => exact ⟨0, L, rfl, ⟨20, rfl, by omega, by omega⟩, Nat.zero_le _, ⟨0, rfl⟩, ⟨Mod.refl _ _ _, rst_empty _ _⟩, HR⟩
  case round =>
    obtain ⟨a, Y, rfl, ⟨b, rfl, hb, hb'⟩, han, HK, HY, HW⟩ := hrel
    by_cases hlt : b ≤ n
    · have bz : (b : Int) ≤ (n : Int) := by omega
      have AA : Hid _ := AI.out Y a b (by omega) hlt wr HW.out
      go_wp2_with fail
      refine Calls.mono AA.out ?_
      rintro e w1 ⟨rfl, Z, hm, hs, hw⟩
      have HZ : Hid (Mod 0 n L Z ∧ Rst 20 Z 0 b) := by
        obtain ⟨k, hk⟩ := HK.out
        exact ⟨HY.out.1.trans (hm.widen (Nat.zero_le _) hlt), rst_push (by omega) hk HY.out.2 hm hs⟩
      have HV : Hid (RW w0 g n c Z w1) := hw
      have HK' : Hid (∃ k, b = k * 20) := by obtain ⟨k, hk⟩ := HK.out; exact ⟨k + 1, by omega⟩
      clear hm hs hw AA HK HY HW
      go_wp2
      go_roundw
      case rel => exact ⟨b, Z, rfl, ⟨b + 20, by go_num, by omega, by omega⟩, hlt, HK', HZ, HV⟩
      case measure => simp [intOf]; omega
    · have bz : ¬ (b : Int) ≤ (n : Int) := by omega
      have AA : Hid _ := AI.out Y a n han (Nat.le_refl _) wr HW.out
      go_wp2_with fail
      refine Calls.mono AA.out ?_
      rintro e w1 ⟨rfl, Z, hm, hs, hw⟩
      have HZ : Hid (Mod 0 n L Z ∧ Rst 20 Z 0 n) := by
        obtain ⟨k, hk⟩ := HK.out
        exact ⟨HY.out.1.trans (hm.widen (Nat.zero_le _) (Nat.le_refl _)), rst_push (by omega) hk HY.out.2 hm hs⟩
      have HV : Hid (RW w0 g n c Z w1) := hw
      clear hm hs hw AA HK HY HW
      clear bz hlt hb hb' han
      obtain ⟨wo, rfl⟩ : ∃ wo, wo = wr := ⟨_, rfl⟩
      go_wp2
      go_loopw [6] (fun x wr => ∃ (bs : Nat) (X : List K), x = .int .i64 bs ∧ 20 ≤ bs ∧ bs ≤ 2 * n + 20 ∧ Hid (Mod 0 n L X ∧ Rst bs X 0 n) ∧ Hid (RW w0 g n c X wr)) (fun x _ => n - (intOf x).toNat)
      case atStart => exact ⟨20, Z, rfl, by omega, by omega, HZ, HV⟩
      case round =>
        obtain ⟨bs, X, rfl, hbs, hbu, HX, HW⟩ := hrel
        by_cases hlt : bs < n
        · have bz : (bs : Int) < (n : Int) := by omega
          obtain ⟨wq, rfl⟩ : ∃ wq, wq = wr := ⟨_, rfl⟩
          go_wp2
          go_loopw [7, 8] (fun x y wr => ∃ (a b : Nat) (Z : List K), x = .int .i64 a ∧ y = .int .i64 b ∧ a + 2 * bs ≤ b ∧ b ≤ a + 2 * bs ∧ a ≤ n ∧ Hid (∃ k, a = k * (2 * bs)) ∧ Hid (Mod 0 n L Z ∧ Rst (2 * bs) Z 0 a ∧ Rst bs Z a n) ∧ Hid (RW w0 g n c Z wr)) (fun x _ _ => n - (intOf x).toNat)
          case atStart => exact ⟨0, 2 * bs, X, rfl, by go_num, by omega, by omega, Nat.zero_le _, ⟨0, by omega⟩, ⟨HX.out.1, rst_empty _ _, HX.out.2⟩, HW⟩
          case round =>
            obtain ⟨a, b, Z, rfl, rfl, hb, hb', han, HK, HZ', HV'⟩ := hrel
            obtain ⟨m, hm1, hm2⟩ : ∃ m : Nat, a + bs ≤ m ∧ m ≤ a + bs := ⟨a + bs, Nat.le_refl _, Nat.le_refl _⟩
            have m1 : (a : Int) + (bs : Int) = (m : Int) := by omega
            have HS1 : Hid (∀ v, v ≤ m → v ≤ n → SIn Z a v) := by
              obtain ⟨k, hk⟩ := HK.out
              have e : a = (2 * k) * bs := by rw [hk, Nat.mul_comm 2 k, Nat.mul_assoc]
              exact fun v v1 v2 => rst_sin HZ'.out.2.2 (Nat.le_refl _) e (by omega) v2
            have HS2 : Hid (∀ v, v ≤ b → v ≤ n → SIn Z m v) := by
              obtain ⟨k, hk⟩ := HK.out
              have e : m = (2 * k + 1) * bs := by
                have e0 : a = (2 * k) * bs := by rw [hk, Nat.mul_comm 2 k, Nat.mul_assoc]
                rw [Nat.succ_mul (2 * k) bs]
                omega
              exact fun v v1 v2 => rst_sin HZ'.out.2.2 (by omega) e (by omega) v2
            have HE : Hid (∀ b Z', Mod a b Z Z' → SIn Z' a b → Rst (2 * bs) Z' 0 b) := by
              obtain ⟨k, hk⟩ := HK.out
              exact fun b Z' h1 h2 => rst_push (by omega) hk HZ'.out.2.1 h1 h2
            by_cases hle : b ≤ n
            · have lz : (b : Int) ≤ (n : Int) := by omega
              have AA : Hid _ := AM.out Z a m b (by omega) (by omega) hle (HS1.out _ (Nat.le_refl _) (by omega)) (HS2.out b (Nat.le_refl _) hle) wr HV'.out
              go_wp2_with fail
              refine Calls.mono AA.out ?_
              rintro e w2 ⟨rfl, Z2, hm, hs, hw⟩
              have HN : Hid (Mod 0 n L Z2 ∧ Rst (2 * bs) Z2 0 b ∧ Rst bs Z2 b n) := ⟨HZ'.out.1.trans (hm.widen (Nat.zero_le _) hle), HE.out b Z2 hm hs, rst_out HZ'.out.2.2 hm (by omega)⟩
              have HV2 : Hid (RW w0 g n c Z2 w2) := hw
              have HK' : Hid (∃ k, b = k * (2 * bs)) := by obtain ⟨k, hk⟩ := HK.out; exact ⟨k + 1, by rw [Nat.succ_mul]; omega⟩
              clear hm hs hw AA HS1 HS2 HE HK HZ' HV'
              go_wp2
              go_roundw
              case rel => exact ⟨b, b + 2 * bs, Z2, rfl, by go_num, by omega, by omega, hle, HK', HN, HV2⟩
              case measure => simp [intOf]; omega
            · have lz : ¬ (b : Int) ≤ (n : Int) := by omega
              by_cases hmn : m < n
              · have mz : (m : Int) < (n : Int) := by omega
                have AA : Hid _ := AM.out Z a m n (by omega) hmn (Nat.le_refl _) (HS1.out _ (Nat.le_refl _) (by omega)) (HS2.out n (by omega) (Nat.le_refl _)) wr HV'.out
                go_wp2_with fail
                refine Calls.mono AA.out ?_
                rintro e w2 ⟨rfl, Z2, hm, hs, hw⟩
                have HN : Hid (Mod 0 n L Z2 ∧ Rst (2 * bs) Z2 0 n) := ⟨HZ'.out.1.trans (hm.widen (Nat.zero_le _) (Nat.le_refl _)), HE.out n Z2 hm hs⟩
                have HV2 : Hid (RW w0 g n c Z2 w2) := hw
                clear hm hs hw AA HS1 HS2 HE HK HZ' HV'
                go_wp2
                go_roundw
                case rel => exact ⟨2 * bs, Z2, by go_num, by omega, by omega, HN, HV2⟩
                case measure => simp [intOf]; omega
              · have mz : ¬ (m : Int) < (n : Int) := by omega
                have HN : Hid (Mod 0 n L Z ∧ Rst (2 * bs) Z 0 n) := ⟨HZ'.out.1, HE.out n Z (Mod.refl _ _ _) (HS1.out n (by omega) (Nat.le_refl _))⟩
                clear HS1 HS2 HE HK HZ'
                go_wp2
                go_roundw
                case rel => exact ⟨2 * bs, Z, by go_num, by omega, by omega, HN, HV'⟩
                case measure => simp [intOf]; omega
        · have bz : ¬ (bs : Int) < (n : Int) := by omega
          have HE : Hid (X.Perm L ∧ SIn X 0 n) := ⟨HX.out.1.perm, rst_all HX.out.2 (by omega)⟩
          go_wp2
          go_end0
          exact ⟨rfl, X, HE.out.1, HE.out.2, HW.out⟩
end Go.Proofs.YtcdikdiopklcgaaGreatDoor.So
