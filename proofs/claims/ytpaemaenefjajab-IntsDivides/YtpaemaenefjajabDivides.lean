/- The walk through the statement IntsDivides. -/
import Derived.Test.YtpaemaenefjajabOwn
import Derived.Test.YtpaemaenefjajabGcd
import Derived.Deep.LoopGhost
import Derived.Deep.DeepCutAuto
namespace Go.Proofs.Ytpaemaenefjajab
open Go.ChangeShapes Go.WideShapes Go.ChangeAt Go.RowKit

set_option maxRecDepth 100000 in
set_option maxHeartbeats 1000000 in
theorem divides_yes (b off : Nat) (zs : List Int) (len cap : Nat) (d : Int) (w : World) (hA : Arg w (some ⟨b, off, none⟩) len cap zs) (_hd : -9223372036854775808 ≤ d ∧ d ≤ 9223372036854775807)
    (hy : gcdB zs = true) (hcells : ∀ k, k < len → w.cell? ⟨b, off + k, none⟩ = some (.int .i64 (nth zs k))) :
    Calls Try.prog 3 #[.slice (some ⟨b, off, none⟩) len cap, .int .i64 d] w fun e w' => e = .returned (.bool true) ∧ Below w.heap.size w w' := by
  have hcopy := ints_any (some ⟨b, off, none⟩) zs len cap w hA
  have hl := hA.size
  have hr := hA.reach
  have hfit := hA.fits
  have hgcd := fun a cap w' h => gcd_any a zs len cap w' hl (by omega) hfit h
  rw [hy] at hgcd
  have HE : Hid (∀ k, k < zs.length → (gcdV zs = 0 → nth zs k = 0) ∧ (nth zs k).tmod (gcdV zs) = 0) := fun k hk => gcd_each hy hk
  have HS : Hid (0 ≤ gcdV zs ∧ gcdV zs ≤ 9223372036854775807 ∧ (someB zs = true ↔ 0 < gcdV zs) ∧ ¬ (lowB zs = true ∧ someB zs = true)) := gcd_signs hy
  have HD : Hid (allB d zs = true → (gcdV zs).tmod d = 0) := fun h => gcd_divided hy h
  have HC : Hid (∀ k, k < len → w.cell? ⟨b, off + k, none⟩ = some (.int .i64 (nth zs k))) := hcells
  obtain ⟨g, hg⟩ : ∃ g, gcdV zs = g := ⟨_, rfl⟩
  rw [hg] at hgcd HE HS HD
  clear hg hy hcells hA
  go_enter Try.func3, Try.ntmps3
  go_wp2_with (first | (go_at_call 9; refine hcopy.mono ?_; rintro e w1 ⟨a1, cap1, rfl, hat1, hbel1, -⟩) | (go_at_call 8; refine (hgcd _ _ _ hat1).mono ?_; rintro e w2 ⟨n2, rfl, rfl⟩))
  go_loopg [7, 8, 9, 10] len (fun gk al lo so i wr => w1.drewN n2 = wr ∧ ∃ (k : Nat) (av lv sv : Bool), k ≤ len ∧ gk = len - k ∧ i = .int .i64 k ∧ al = .bool av ∧ lo = .bool lv ∧ so = .bool sv ∧
    (av && allB d (zs.drop k)) = allB d zs ∧ (lv && lowB (zs.drop k)) = lowB zs ∧ (sv || someB (zs.drop k)) = someB zs)
  case atStart => exact ⟨rfl, 0, true, true, false, Nat.zero_le _, rfl, rfl, rfl, rfl, rfl, rfl, rfl, rfl⟩
  case round =>
    obtain ⟨rfl, k, av, lv, sv, hk, rfl, rfl, rfl, rfl, rfl, hav, hlv, hsv⟩ := hrel
    have HR : Hid ((av && allB d (zs.drop k)) = allB d zs ∧ (lv && lowB (zs.drop k)) = lowB zs ∧ (sv || someB (zs.drop k)) = someB zs) := ⟨hav, hlv, hsv⟩
    clear hav hlv hsv
    by_cases hlt : k < len
    · have hc := HC.out k hlt
      have hc1 : w1.cell? ⟨b, off + k, none⟩ = some (.int .i64 (nth zs k)) := by rw [hbel1.cell (block_lt_of_cell hc)]; exact hc
      have hx := hfit k
      have HX := HE.out k (by omega)
      have HDr : Hid (zs.drop k = nth zs k :: zs.drop (k + 1)) := drop_nth zs k (by omega)
      clear hc
      generalize nth zs k = x at *
      go_upto_region 8 with fail
      go_cut [9] (fun s9 wx => w1.drewN n2 = wx ∧ s9 = .bool (sv || (x != 0)))
      case first =>
        cases sv
        all_goals
          go_wp2
          go_meet
          exact ⟨rfl, by simp⟩
      case rest =>
        obtain ⟨rfl, rfl⟩ := hcut
        go_upto_region 9 with fail
        go_cut [8] (fun s8 wx => w1.drewN n2 = wx ∧ s8 = .bool (lv && (x == 0 || x == -9223372036854775808)))
        case first =>
          cases lv
          · go_wp2
            go_meet
            exact ⟨rfl, by simp⟩
          · by_cases hx0 : x = 0
            · have q1 : (x == 0) = true := by simpa using hx0
              clear hx0
              go_wp2
              go_meet
              exact ⟨rfl, by rw [q1]; rfl⟩
            · have q1 : (x == 0) = false := by simpa using hx0
              go_wp2
              go_meet
              exact ⟨rfl, by rw [q1]; simp⟩
        case rest =>
          obtain ⟨rfl, rfl⟩ := hcut
          go_upto_region 10 with fail
          go_cut [7] (fun s7 wx => w1.drewN n2 = wx ∧ s7 = .bool (av && ((d != 0) && (x.tmod d == 0))))
          case first =>
            cases av
            · go_wp2
              go_meet
              exact ⟨rfl, by simp⟩
            · by_cases hd0 : d = 0
              · have q1 : (d == 0) = true := by simpa using hd0
                have q2 : (d != 0) = false := by simpa using hd0
                clear hd0
                go_wp2
                go_meet
                exact ⟨rfl, by rw [q2]; rfl⟩
              · have q1 : (d == 0) = false := by simpa using hd0
                have q2 : (d != 0) = true := by simpa using hd0
                have q3 := (rem_facts x d hd0 hx.1 hx.2).1
                go_wp2
                go_meet
                exact ⟨rfl, by rw [q2]; simp⟩
          case rest =>
            obtain ⟨rfl, rfl⟩ := hcut
            go_upto_region 11 with fail
            go_cut [84] (fun s84 wx => w1.drewN n2 = wx ∧ s84 = .bool false)
            case first =>
              by_cases hg0 : g = 0
              · have q1 : (g == 0) = true := by simpa using hg0
                have q2 : (g != 0) = false := by simpa using hg0
                have q3 : (x != 0) = false := by simpa using HX.1 hg0
                clear hg0 HX
                go_wp2
                go_meet
                exact ⟨rfl, rfl⟩
              · have q1 : (g == 0) = false := by simpa using hg0
                have q2 : (g != 0) = true := by simpa using hg0
                have q3 := HX.2
                clear HX
                go_wp2
                go_meet
                exact ⟨rfl, rfl⟩
            case rest =>
              obtain ⟨rfl, rfl⟩ := hcut
              clear HX
              go_wp2
              go_roundg (len - (k + 1))
              case measure => omega
              case rel =>
                have hR := HR.out
                rw [HDr.out] at hR
                exact ⟨rfl, k + 1, _, _, _, by omega, rfl, by go_num, rfl, rfl, rfl, by rw [← hR.1, allB, Bool.and_assoc], by rw [← hR.2.1, lowB, Bool.and_assoc], by rw [← hR.2.2, someB, Bool.or_assoc]⟩
    · have HDr : Hid (zs.drop k = []) := drop_end zs k (by omega)
      have hR := HR.out
      rw [HDr.out] at hR
      simp only [allB, lowB, someB, Bool.and_true, Bool.or_false] at hR
      obtain ⟨rfl, rfl, rfl⟩ := hR
      obtain ⟨h1, h2, h3, h4⟩ := HS.out
      clear HR HS HE HC
      have HDD := HD.out
      clear HD
      generalize lowB zs = lv at *
      generalize someB zs = sv at *
      generalize allB d zs = av at *
      clear HDr
      go_upto_region 15 with fail
      go_cut [111] (fun s111 wx => w1.drewN n2 = wx ∧ s111 = .bool false)
      case first =>
        have h5 : ¬ g < 0 := by omega
        cases sv
        · have h6 : ¬ 0 < g := fun h => by cases h3.2 h
          cases lv
          all_goals
            clear h3 h4
            go_wp2
            go_meet
            exact ⟨rfl, rfl⟩
        · have h6 : 0 < g := h3.1 rfl
          have h7 : lv = false := by cases lv; rfl; exact absurd ⟨rfl, rfl⟩ h4
          subst h7
          clear h3 h4
          go_wp2
          go_meet
          exact ⟨rfl, rfl⟩
      case rest =>
        obtain ⟨rfl, rfl⟩ := hcut
        clear h3 h4
        have fin : ∀ w3 : World, Below (w1.drewN n2).heap.size (w1.drewN n2) w3 → Below w.heap.size w w3 := fun w3 h => (bdrew hbel1 n2).trans (h.mono hbel1.size)
        cases av
        · clear HDD
          go_wp2_with (go_at_call 10; refine (awake_any _).mono ?_; rintro e w3 ⟨rfl, hb3⟩)
          go_ret
          exact ⟨rfl, fin _ hb3⟩
        · have q3 := HDD rfl
          clear HDD
          by_cases hd0 : d = 0
          · have q1 : (d == 0) = true := by simpa using hd0
            clear hd0 q3
            go_wp2_with (go_at_call 10; refine (awake_any _).mono ?_; rintro e w3 ⟨rfl, hb3⟩)
            go_ret
            exact ⟨rfl, fin _ hb3⟩
          · have q1 : (d == 0) = false := by simpa using hd0
            go_wp2_with (go_at_call 10; refine (awake_any _).mono ?_; rintro e w3 ⟨rfl, hb3⟩)
            go_ret
            exact ⟨rfl, fin _ hb3⟩

set_option maxRecDepth 100000 in
set_option maxHeartbeats 1000000 in
theorem divides_no (b off : Nat) (zs : List Int) (len cap : Nat) (d : Int) (w : World) (hA : Arg w (some ⟨b, off, none⟩) len cap zs) (_hd : -9223372036854775808 ≤ d ∧ d ≤ 9223372036854775807)
    (hy : gcdB zs = false) (hcells : ∀ k, k < len → w.cell? ⟨b, off + k, none⟩ = some (.int .i64 (nth zs k))) :
    Calls Try.prog 3 #[.slice (some ⟨b, off, none⟩) len cap, .int .i64 d] w fun e w' => e = .returned (.bool true) ∧ Below w.heap.size w w' := by
  have hcopy := ints_any (some ⟨b, off, none⟩) zs len cap w hA
  have hl := hA.size
  have hr := hA.reach
  have hfit := hA.fits
  have hgcd := fun a cap w' h => gcd_any a zs len cap w' hl (by omega) hfit h
  obtain ⟨k1, k2, k3⟩ := gcd_no hfit hy
  rw [hy, k1] at hgcd
  have HL : Hid (lowB zs = true ∧ someB zs = true) := ⟨k2, k3⟩
  have HC : Hid (∀ k, k < len → w.cell? ⟨b, off + k, none⟩ = some (.int .i64 (nth zs k))) := hcells
  clear hy hcells hA k1 k2 k3
  go_enter Try.func3, Try.ntmps3
  go_wp2_with (first | (go_at_call 9; refine hcopy.mono ?_; rintro e w1 ⟨a1, cap1, rfl, hat1, hbel1, -⟩) | (go_at_call 8; refine (hgcd _ _ _ hat1).mono ?_; rintro e w2 ⟨n2, rfl, rfl⟩))
  go_loopg [7, 8, 9, 10] len (fun gk al lo so i wr => w1.drewN n2 = wr ∧ ∃ (k : Nat) (av lv sv : Bool), k ≤ len ∧ gk = len - k ∧ i = .int .i64 k ∧ al = .bool av ∧ lo = .bool lv ∧ so = .bool sv ∧
    (lv && lowB (zs.drop k)) = lowB zs ∧ (sv || someB (zs.drop k)) = someB zs)
  case atStart => exact ⟨rfl, 0, true, true, false, Nat.zero_le _, rfl, rfl, rfl, rfl, rfl, rfl, rfl⟩
  case round =>
    obtain ⟨rfl, k, av, lv, sv, hk, rfl, rfl, rfl, rfl, rfl, hlv, hsv⟩ := hrel
    have HR : Hid ((lv && lowB (zs.drop k)) = lowB zs ∧ (sv || someB (zs.drop k)) = someB zs) := ⟨hlv, hsv⟩
    clear hlv hsv
    by_cases hlt : k < len
    · have hc := HC.out k hlt
      have hc1 : w1.cell? ⟨b, off + k, none⟩ = some (.int .i64 (nth zs k)) := by rw [hbel1.cell (block_lt_of_cell hc)]; exact hc
      have hx := hfit k
      have HDr : Hid (zs.drop k = nth zs k :: zs.drop (k + 1)) := drop_nth zs k (by omega)
      clear hc
      generalize nth zs k = x at *
      go_upto_region 8 with fail
      go_cut [9] (fun s9 wx => w1.drewN n2 = wx ∧ s9 = .bool (sv || (x != 0)))
      case first =>
        cases sv
        all_goals
          go_wp2
          go_meet
          exact ⟨rfl, by simp⟩
      case rest =>
        obtain ⟨rfl, rfl⟩ := hcut
        go_upto_region 9 with fail
        go_cut [8] (fun s8 wx => w1.drewN n2 = wx ∧ s8 = .bool (lv && (x == 0 || x == -9223372036854775808)))
        case first =>
          cases lv
          · go_wp2
            go_meet
            exact ⟨rfl, by simp⟩
          · by_cases hx0 : x = 0
            · have q1 : (x == 0) = true := by simpa using hx0
              clear hx0
              go_wp2
              go_meet
              exact ⟨rfl, by rw [q1]; rfl⟩
            · have q1 : (x == 0) = false := by simpa using hx0
              go_wp2
              go_meet
              exact ⟨rfl, by rw [q1]; simp⟩
        case rest =>
          obtain ⟨rfl, rfl⟩ := hcut
          go_upto_region 10 with fail
          go_cut [7] (fun s7 wx => w1.drewN n2 = wx ∧ ∃ bv : Bool, s7 = .bool bv)
          case first =>
            cases av
            · go_wp2
              go_meet
              exact ⟨rfl, _, rfl⟩
            · by_cases hd0 : d = 0
              · have q1 : (d == 0) = true := by simpa using hd0
                have q2 : (d != 0) = false := by simpa using hd0
                clear hd0
                go_wp2
                go_meet
                exact ⟨rfl, _, rfl⟩
              · have q1 : (d == 0) = false := by simpa using hd0
                have q2 : (d != 0) = true := by simpa using hd0
                go_wp2
                go_meet
                exact ⟨rfl, _, rfl⟩
          case rest =>
            obtain ⟨rfl, bv, rfl⟩ := hcut
            go_wp2
            go_roundg (len - (k + 1))
            case measure => omega
            case rel =>
              have hR := HR.out
              rw [HDr.out] at hR
              exact ⟨rfl, k + 1, _, _, _, by omega, rfl, by go_num, rfl, rfl, rfl, by rw [← hR.1, lowB, Bool.and_assoc], by rw [← hR.2, someB, Bool.or_assoc]⟩
    · have HDr : Hid (zs.drop k = []) := drop_end zs k (by omega)
      have hR := HR.out
      rw [HDr.out, HL.out.1, HL.out.2] at hR
      simp only [lowB, someB, Bool.and_true, Bool.or_false] at hR
      obtain ⟨rfl, rfl⟩ := hR
      have fin : ∀ w3 : World, Below (w1.drewN n2).heap.size (w1.drewN n2) w3 → Below w.heap.size w w3 := fun w3 h => (bdrew hbel1 n2).trans (h.mono hbel1.size)
      clear HDr HR HL HC
      go_wp2_with (go_at_call 10; refine (awake_any _).mono ?_; rintro e w3 ⟨rfl, hb3⟩)
      go_ret
      exact ⟨rfl, fin _ hb3⟩

set_option maxRecDepth 100000 in
set_option maxHeartbeats 1000000 in
theorem divides_empty (a : Option Addr) (cap : Nat) (d : Int) (w : World) (hA : Arg w a 0 cap []) (_hd : -9223372036854775808 ≤ d ∧ d ≤ 9223372036854775807) :
    Calls Try.prog 3 #[.slice a 0 cap, .int .i64 d] w fun e w' => e = .returned (.bool true) ∧ Below w.heap.size w w' := by
  have hcopy := ints_any a [] 0 cap w hA
  have hgcd := fun a cap w' h => gcd_any a [] 0 cap w' rfl (by decide) inR0 h
  have k1 : gcdV [] = 0 := by decide +kernel
  have k2 : gcdB [] = true := by decide +kernel
  rw [k1, k2] at hgcd
  clear k1 k2 hA
  by_cases hd0 : d = 0
  · have q1 : (d == 0) = true := by simpa using hd0
    clear hd0
    go_enter Try.func3, Try.ntmps3
    go_wp2_with (first | (go_at_call 9; refine hcopy.mono ?_; rintro e w1 ⟨a1, cap1, rfl, hat1, hbel1, -⟩) | (go_at_call 8; refine (hgcd _ _ _ hat1).mono ?_; rintro e w2 ⟨n2, rfl, rfl⟩))
    have fin : ∀ w3 : World, Below (w1.drewN n2).heap.size (w1.drewN n2) w3 → Below w.heap.size w w3 := fun w3 h => (bdrew hbel1 n2).trans (h.mono hbel1.size)
    go_loop [7, 8, 9, 10] (fun x y z i => x = .bool true ∧ y = .bool true ∧ z = .bool false ∧ i = .int .i64 0) (fun _ _ _ _ => 0)
    case atStart => exact ⟨rfl, rfl, rfl, rfl⟩
    case round =>
      obtain ⟨rfl, rfl, rfl, rfl⟩ := hrel
      go_wp2_with (go_at_call 10; refine (awake_any _).mono ?_; rintro e w3 ⟨rfl, hb3⟩)
      go_ret
      exact ⟨rfl, fin _ hb3⟩
  · have q1 : (d == 0) = false := by simpa using hd0
    go_enter Try.func3, Try.ntmps3
    go_wp2_with (first | (go_at_call 9; refine hcopy.mono ?_; rintro e w1 ⟨a1, cap1, rfl, hat1, hbel1, -⟩) | (go_at_call 8; refine (hgcd _ _ _ hat1).mono ?_; rintro e w2 ⟨n2, rfl, rfl⟩))
    have fin : ∀ w3 : World, Below (w1.drewN n2).heap.size (w1.drewN n2) w3 → Below w.heap.size w w3 := fun w3 h => (bdrew hbel1 n2).trans (h.mono hbel1.size)
    go_loop [7, 8, 9, 10] (fun x y z i => x = .bool true ∧ y = .bool true ∧ z = .bool false ∧ i = .int .i64 0) (fun _ _ _ _ => 0)
    case atStart => exact ⟨rfl, rfl, rfl, rfl⟩
    case round =>
      obtain ⟨rfl, rfl, rfl, rfl⟩ := hrel
      go_wp2_with (go_at_call 10; refine (awake_any _).mono ?_; rintro e w3 ⟨rfl, hb3⟩)
      go_ret
      exact ⟨rfl, fin _ hb3⟩

theorem divides_any (a : Option Addr) (len cap : Nat) (zs : List Int) (d : Int) (w : World) (hA : Arg w a len cap zs) (hd : -9223372036854775808 ≤ d ∧ d ≤ 9223372036854775807) :
    Calls Try.prog 3 #[.slice a len cap, .int .i64 d] w fun e w' => e = .returned (.bool true) ∧ Below w.heap.size w w' := by
  have hl := hA.size
  rcases hA.lies with h | ⟨b, off, rfl, hc⟩
  · subst h
    have e : len = 0 := by simpa using hl.symm
    subst e
    exact divides_empty a cap d w hA hd
  · rw [hl] at hc
    cases h : gcdB zs
    · exact divides_no b off zs len cap d w hA hd h hc
    · exact divides_yes b off zs len cap d w hA hd h hc
end Go.Proofs.Ytpaemaenefjajab
