/- The walk through the statement IntsMultiple. -/
import Derived.Test.YtpaemaenefjajabOwn
import Derived.Test.YtpaemaenefjajabLcm
import Derived.Deep.LoopGhost
import Derived.Deep.DeepCutAuto
namespace Go.Proofs.Ytpaemaenefjajab
open Go.ChangeShapes Go.WideShapes Go.ChangeAt Go.RowKit

set_option maxRecDepth 100000 in
set_option maxHeartbeats 2000000 in
theorem multiple_some (b off : Nat) (zs : List Int) (len cap : Nat) (m : Int) (w : World) (hA : Arg w (some ⟨b, off, none⟩) len cap zs) (hm : -9223372036854775808 ≤ m ∧ m ≤ 9223372036854775807)
    (hcells : ∀ k, k < len → w.cell? ⟨b, off + k, none⟩ = some (.int .i64 (nth zs k))) :
    Calls Try.prog 4 #[.slice (some ⟨b, off, none⟩) len cap, .int .i64 m] w fun e w' => e = .returned (.bool true) ∧ Below w.heap.size w w' := by
  have hcopy := ints_any (some ⟨b, off, none⟩) zs len cap w hA
  have hl := hA.size
  have hr := hA.reach
  have hfit := hA.fits
  have hlcm := fun a cap w' h => lcm_any a zs len cap w' hl (by omega) hfit h
  obtain ⟨hlr, h1, h2, h3⟩ := lcm_all zs m hm.2
  have HE : Hid (lcmB zs = true → ∀ x ∈ zs, x ≠ 0 → (lcmV zs).tmod x = 0) := h1
  have HZ : Hid (zeroB zs = true → lcmB zs = true ∧ lcmV zs = 0) := h2
  have HN : Hid (zeroB zs = false → (lcmB zs = true → 1 ≤ lcmV zs) ∧ (lcmB zs = false → lcmV zs = 0) ∧ ((decide (0 < m) && multB m zs) = true → lcmB zs = true ∧ m.tmod (lcmV zs) = 0)) := h3
  have HC : Hid (∀ k, k < len → w.cell? ⟨b, off + k, none⟩ = some (.int .i64 (nth zs k))) := hcells
  clear hA h1 h2 h3 hcells
  obtain ⟨l, hlv⟩ : ∃ l, lcmV zs = l := ⟨_, rfl⟩
  obtain ⟨f, hfv⟩ : ∃ f, lcmB zs = f := ⟨_, rfl⟩
  rw [hlv, hfv] at hlcm HE HZ HN
  rw [hlv] at hlr
  clear hlv hfv
  obtain ⟨hl1, hl2⟩ := hlr
  go_enter Try.func4, Try.ntmps4
  go_wp2_with (first | (go_at_call 9; refine hcopy.mono ?_; rintro e w1 ⟨a1, cap1, rfl, hat1, hbel1, -⟩) | (go_at_call 11; refine (hlcm _ _ _ hat1).mono ?_; rintro e w2 ⟨n2, rfl, rfl⟩))
  go_loopg [7, 8, 9] len (fun gk zo al i wr => w1.drewN n2 = wr ∧ ∃ (k : Nat) (zv av : Bool), k ≤ len ∧ gk = len - k ∧ i = .int .i64 k ∧ zo = .bool zv ∧ al = .bool av ∧
    (av && multB m (zs.drop k)) = (decide (0 < m) && multB m zs) ∧ (zv || zeroB (zs.drop k)) = zeroB zs)
  case atStart => exact ⟨rfl, 0, false, _, Nat.zero_le _, rfl, rfl, rfl, rfl, rfl, rfl⟩
  case round =>
    obtain ⟨rfl, k, zv, av, hk, rfl, rfl, rfl, rfl, hav, hzv⟩ := hrel
    have HR : Hid ((av && multB m (zs.drop k)) = (decide (0 < m) && multB m zs) ∧ (zv || zeroB (zs.drop k)) = zeroB zs) := ⟨hav, hzv⟩
    clear hav hzv
    by_cases hlt : k < len
    · have hc := HC.out k hlt
      have hc1 : w1.cell? ⟨b, off + k, none⟩ = some (.int .i64 (nth zs k)) := by rw [hbel1.cell (block_lt_of_cell hc)]; exact hc
      have hx := hfit k
      have HX : f = true → nth zs k ≠ 0 → l.tmod (nth zs k) = 0 := fun h h0 => HE.out h _ (nth_mem (by omega)) h0
      have HDr : Hid (zs.drop k = nth zs k :: zs.drop (k + 1)) := drop_nth zs k (by omega)
      clear hc
      generalize nth zs k = x at *
      by_cases hx0 : x = 0
      · have q1 : (x == 0) = true := by simpa using hx0
        have q2 : (x != 0) = false := by simpa using hx0
        clear HX
        clear hx0
        go_wp2
        go_roundg (len - (k + 1))
        case measure => omega
        case rel =>
          have hR := HR.out
          rw [HDr.out] at hR
          exact ⟨rfl, k + 1, _, _, by omega, rfl, by go_num, rfl, rfl, by rw [← hR.1, multB, q2]; simp, by rw [← hR.2, zeroB, q1]; simp⟩
      · have q1 : (x == 0) = false := by simpa using hx0
        have q2 : (x != 0) = true := by simpa using hx0
        have q4 := (rem_facts m x hx0 hm.1 hm.2).1
        by_cases hmx : m.tmod x = 0
        · have q3 : (m.tmod x == 0) = true := by simpa using hmx
          have HM : Hid ((m.tmod x == 0) = true) := q3
          clear q3
          cases f
          · clear HX
            go_wp2
            go_roundg (len - (k + 1))
            case measure => omega
            case rel =>
              have hR := HR.out
              rw [HDr.out] at hR
              exact ⟨rfl, k + 1, _, _, by omega, rfl, by go_num, rfl, rfl, by rw [← hR.1, multB, q2, HM.out]; simp, by rw [← hR.2, zeroB, q1]; simp⟩
          · have q5 := HX rfl hx0
            clear HX
            go_wp2
            go_roundg (len - (k + 1))
            case measure => omega
            case rel =>
              have hR := HR.out
              rw [HDr.out] at hR
              exact ⟨rfl, k + 1, _, _, by omega, rfl, by go_num, rfl, rfl, by rw [← hR.1, multB, q2, HM.out]; simp, by rw [← hR.2, zeroB, q1]; simp⟩
        · have q3 : (m.tmod x == 0) = false := by simpa using hmx
          have q6 : (m.tmod x != 0) = true := by simpa using hmx
          cases f
          · clear HX
            go_wp2
            go_roundg (len - (k + 1))
            case measure => omega
            case rel =>
              have hR := HR.out
              rw [HDr.out] at hR
              exact ⟨rfl, k + 1, _, _, by omega, rfl, by go_num, rfl, rfl, by rw [← hR.1, multB, q3]; simp, by rw [← hR.2, zeroB, q1]; simp⟩
          · have q5 := HX rfl hx0
            clear HX
            go_wp2
            go_roundg (len - (k + 1))
            case measure => omega
            case rel =>
              have hR := HR.out
              rw [HDr.out] at hR
              exact ⟨rfl, k + 1, _, _, by omega, rfl, by go_num, rfl, rfl, by rw [← hR.1, multB, q3]; simp, by rw [← hR.2, zeroB, q1]; simp⟩
    · have HDr : Hid (zs.drop k = []) := drop_end zs k (by omega)
      have hR := HR.out
      rw [HDr.out] at hR
      simp only [multB, zeroB, Bool.and_true, Bool.or_false] at hR
      have fin : ∀ w3 : World, Below (w1.drewN n2).heap.size (w1.drewN n2) w3 → Below w.heap.size w w3 := fun w3 h => (bdrew hbel1 n2).trans (h.mono hbel1.size)
      obtain ⟨hav, rfl⟩ := hR
      have hz' := HZ.out
      have hn' := HN.out
      rw [← hav] at hn'
      clear HDr HR HZ HN HE HC hav
      generalize zeroB zs = zv at *
      cases zv
      · obtain ⟨p1, p2, p3⟩ := hn' rfl
        clear hn' hz'
        cases f
        · have e : l = 0 := p2 rfl
          subst e
          have e : av = false := by cases av; rfl; cases (p3 rfl).1
          subst e
          clear p1 p2 p3
          go_wp2_with (go_at_call 10; refine (awake_any _).mono ?_; rintro e w3 ⟨rfl, hb3⟩)
          go_ret
          exact ⟨rfl, fin _ hb3⟩
        · have p4 := p1 rfl
          have p5 : ¬ l = 0 := by omega
          clear p1 p2
          cases av
          · clear p3
            go_wp2_with (go_at_call 10; refine (awake_any _).mono ?_; rintro e w3 ⟨rfl, hb3⟩)
            go_ret
            exact ⟨rfl, fin _ hb3⟩
          · have p6 := (p3 rfl).2
            clear p3
            go_wp2_with (go_at_call 10; refine (awake_any _).mono ?_; rintro e w3 ⟨rfl, hb3⟩)
            go_ret
            exact ⟨rfl, fin _ hb3⟩
      · obtain ⟨rfl, rfl⟩ := hz' rfl
        clear hn' hz'
        go_wp2_with (go_at_call 10; refine (awake_any _).mono ?_; rintro e w3 ⟨rfl, hb3⟩)
        go_ret
        exact ⟨rfl, fin _ hb3⟩

set_option maxRecDepth 100000 in
set_option maxHeartbeats 1000000 in
theorem multiple_empty (a : Option Addr) (cap : Nat) (m : Int) (w : World) (hA : Arg w a 0 cap []) (hm : -9223372036854775808 ≤ m ∧ m ≤ 9223372036854775807) :
    Calls Try.prog 4 #[.slice a 0 cap, .int .i64 m] w fun e w' => e = .returned (.bool true) ∧ Below w.heap.size w w' := by
  have hcopy := ints_any a [] 0 cap w hA
  have hlcm := fun a cap w' h => lcm_any a [] 0 cap w' rfl (by decide) inR0 h
  have k1 : lcmV [] = 1 := by decide +kernel
  have k2 : lcmB [] = true := by decide +kernel
  rw [k1, k2] at hlcm
  clear k1 k2 hA
  have k3 : m.tmod 1 = 0 := Int.tmod_one m
  by_cases h0 : 0 < m
  all_goals
    go_enter Try.func4, Try.ntmps4
    go_wp2_with (first | (go_at_call 9; refine hcopy.mono ?_; rintro e w1 ⟨a1, cap1, rfl, hat1, hbel1, -⟩) | (go_at_call 11; refine (hlcm _ _ _ hat1).mono ?_; rintro e w2 ⟨n2, rfl, rfl⟩))
    have fin : ∀ w3 : World, Below (w1.drewN n2).heap.size (w1.drewN n2) w3 → Below w.heap.size w w3 := fun w3 h => (bdrew hbel1 n2).trans (h.mono hbel1.size)
    go_loop [7, 8, 9] (fun x y i => x = .bool false ∧ y = .bool (decide (0 < m)) ∧ i = .int .i64 0) (fun _ _ _ => 0)
    case atStart => exact ⟨rfl, by simp [h0], rfl⟩
    case round =>
      obtain ⟨rfl, rfl, rfl⟩ := hrel
      go_wp2_with (go_at_call 10; refine (awake_any _).mono ?_; rintro e w3 ⟨rfl, hb3⟩)
      go_ret
      exact ⟨rfl, fin _ hb3⟩

theorem multiple_any (a : Option Addr) (len cap : Nat) (zs : List Int) (m : Int) (w : World) (hA : Arg w a len cap zs) (hm : -9223372036854775808 ≤ m ∧ m ≤ 9223372036854775807) :
    Calls Try.prog 4 #[.slice a len cap, .int .i64 m] w fun e w' => e = .returned (.bool true) ∧ Below w.heap.size w w' := by
  have hl := hA.size
  rcases hA.lies with h | ⟨b, off, rfl, hc⟩
  · subst h
    have e : len = 0 := by simpa using hl.symm
    subst e
    exact multiple_empty a cap m w hA hm
  · rw [hl] at hc
    exact multiple_some b off zs len cap m w hA hm hc
end Go.Proofs.Ytpaemaenefjajab
