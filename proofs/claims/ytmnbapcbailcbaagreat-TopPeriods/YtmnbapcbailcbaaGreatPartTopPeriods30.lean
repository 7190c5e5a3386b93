/- Texts of one chain, laid one behind the other. -/
import Derived.Test.YtmnbapcbailcbaaGreatPartTopPeriods29
namespace Go.Proofs.YtmnbapcbailcbaaGreat
open Go.ChangeShapes Go.WideShapes Go.ChangeAt Go.RowKit
set_option maxRecDepth 100000 in
set_option maxHeartbeats 4000000 in
theorem inFlaw_any (F : Nat → Prop) (w0 w : World) (b : Nat) (s : LS) (a : Option Addr) (Es : List GP) (cap : Nat) (h : Led F w b s) (hA : AtPt w0 a Es) (hw : Below w0.heap.size w0 w) (hF : ∀ k, F k → w0.heap.size ≤ k) (hn : Es.length ≤ 16) (hns : s.ns.length ≤ 100) (hI : SmallR s.I) (hO : SmallR s.O) :
    Calls Tryz.prog 66 #[.pointer (some ⟨b, 0, none⟩), .slice a Es.length cap] w (FlowE F w b (insF Es 0 s)) := by
  have HA := hiddenG hA
  have HW := hiddenG hw
  have HF := hiddenG hF
  have sw := hw.size
  have ba := (Below.refl w.heap.size w).alloc (Nat.le_refl _) (.cells #[.int .i64 0, .int .u8 0, .int .i64 0, .int .u8 0] 104)
  have BA := hiddenG ba
  have HL := hiddenG (h.below ba)
  have HLO := hiddenG h.low
  have HI0 := hiddenG hI
  have HO0 := hiddenG hO
  have NR := hiddenG (blkA_new 104 w #[.int .i64 0, .int .u8 0, .int .i64 0, .int .u8 0])
  have hsz : (w.alloc (.cells #[.int .i64 0, .int .u8 0, .int .i64 0, .int .u8 0] 104)).heap.size = w.heap.size + 1 := by simp
  have hnI : (Es.length : Int) ≤ 16 := by omega
  clear h hA hw hF ba hI hO
  go_enter Tryz.func66, Tryz.ntmps66
  go_upto_region 1 with fail
  generalize w.alloc (.cells #[.int .i64 0, .int .u8 0, .int .i64 0, .int .u8 0] 104) = W0 at *
  go_wp2
  go_loopg [11] Es.length (fun gk v wr => ∃ (i : Nat) (s' : LS), i ≤ Es.length ∧ gk = Es.length - i ∧ v = .int .i64 (i : Int) ∧ insF Es 0 s = insF (Es.drop i) i s' ∧ Led F wr b s' ∧ Chg F W0 wr ∧ s'.ns.length ≤ s.ns.length + i ∧ SmallR s'.I ∧ SmallR s'.O)
  case atStart => exact ⟨0, s, Nat.zero_le _, rfl, rfl, rfl, HL.out, Chg.of_below (Below.refl _ _), Nat.le_refl _, HI0.out, HO0.out⟩
  case round =>
    obtain ⟨i, s', hi, rfl, rfl, hEq, hLed, hChg, q1, hI', hO'⟩ := hrel
    have HEQ := hiddenG hEq
    have HLED := hiddenG hLed
    have HC := hiddenG hChg
    have HI' := hiddenG hI'
    have HO' := hiddenG hO'
    have swr := hChg.size
    have HNR : Hid (¬ F w.heap.size) := fun e => by have := HLO.out _ e; omega
    have NRW := hiddenG (NR.out.keep (hChg.block _ (by omega) HNR.out))
    have BW : Hid (Below w0.heap.size w0 wr) := by
      have p1 := HW.out.trans (BA.out.mono sw)
      exact p1.trans (hChg.below HF.out p1.size)
    clear hEq hLed hChg hI' hO'
    by_cases hlt : i < Es.length
    · have hii : (i : Int) < (Es.length : Int) := by omega
      rcases HA.out with h0 | ⟨ab, ao, rfl, hc⟩
      · rw [h0] at hlt; simp at hlt
      obtain ⟨a0', a1', a2'⟩ := hc i hlt
      have a0 := cellG BW.out a0'
      have a1 := cellG BW.out a1'
      have a2 := cellG BW.out a2'
      have HDR := hiddenG (drop_P hlt)
      generalize nthP Es i = E at *
      obtain ⟨nm, pa, pp⟩ := E
      clear hc a0' a1' a2'
      obtain ⟨ce, hce⟩ : ∃ q, (enterS s'.ns nm).1 = q := ⟨_, rfl⟩
      have HCE := hiddenG hce
      have q4 := enter_len s'.ns nm
      clear hce
      by_cases h1 : ce = 0
      · subst h1
        obtain ⟨co, hco⟩ : ∃ q, takeC s'.I pa pp = q := ⟨_, rfl⟩
        have HCO := hiddenG hco
        clear hco
        go_upto_region 7 with (first
          | (refine wpList_storeP _ rfl (.tmp 6) (.tmp 15) rfl rfl wr.heap.size _ _ _ _ _ _ rfl rfl (blkA_new 67 wr #[.string ⟨#[]⟩, .int .i64 0, .int .i64 0]) ?_; intro w1 hNA hUA; have X1 := hiddenG hNA; have b1 := ((Below.refl wr.heap.size wr).alloc (Nat.le_refl _) (.cells #[.string ⟨#[]⟩, .int .i64 0, .int .i64 0] 67)).trans (hUA.below (Nat.le_refl _) (by simp)); have B1 := hiddenG b1; have L1 := hiddenG (HLED.out.below b1); have R1 := hiddenG (NRW.out.below b1); have y0 : w1.cell? ⟨wr.heap.size, 0, none⟩ = some (.string (str nm)) := hNA.cell rfl; clear hNA hUA b1)
          | (go_at_call 85; (with_reducible refine (enter_any F w1 b s' nm L1.out (by omega)).mono ?_); rintro e w2 ⟨rfl, hL2, hG2⟩; have L2 := hiddenG hL2; have G2 := hiddenG hG2; have X2 := hiddenG (X1.out.keep (hG2.block _ X1.out.lt (fun e => by have := HLED.out.low _ e; omega))); have R2 := hiddenG (R1.out.keep (hG2.block _ R1.out.lt HNR.out)); rw [HCE.out]; clear hL2 hG2 y0))
        obtain ⟨m', u1, u2, E1, E2, hQ0⟩ := id L2.out
        obtain ⟨wx, wc, hw1⟩ := hQ0.ins.slice
        subst hw1
        have LQ := hiddenG hQ0
        clear hQ0
        refine wp_region_gen [8] (fun d i u z => match i with
            | 0 => z = .pointer (some ⟨b, 0, none⟩)
            | 1 => z = .pointer (some ⟨b, 0, none⟩)
            | 2 => z = .pointer (some ⟨b, 1, none⟩)
            | 3 => z = .slice wx s'.I.length wc
            | 4 => z = .pointer (some ⟨wr.heap.size, 1, none⟩)
            | 5 => z = .int .i64 pa
            | 6 => z = .pointer (some ⟨wr.heap.size, 2, none⟩)
            | 7 => z = .int .i64 pp
            | 8 => z = .int .i64 (takeC s'.I pa pp)
            | 9 => z = .int .i64 (takeC s'.I pa pp)
            | _ => True) (fun d u => (d 8 = false → Below w2.heap.size w2 u) ∧ (d 8 = true → TookV F w2 b ⟨(enterS s'.ns nm).2, takeR s'.I pa pp, s'.O⟩ u)) (by kernel_rfl) (by kernel_rfl) (by kernel_rfl) ?_ ?_ ?_ ?_ ?_ ?_ (by kernel_rfl)
        · intro d i w v w' h hb
          match i, h with
          | 0, h => exact h
          | 1, h => exact h
          | 2, h => exact h
          | 3, h => exact h
          | 4, h => exact h
          | 5, h => exact h
          | 6, h => exact h
          | 7, h => exact h
          | 8, h => exact h
          | 9, h => exact h
          | _ + 10, _ => trivial
        · intro d u u' h hb
          exact ⟨fun e => (h.1 e).trans (hb.mono (h.1 e).size), fun e => (h.2 e).later hb⟩
        · exact ⟨fun _ => Below.refl _ _, fun e => absurd e (by decide)⟩
        · intro d i o ρ w' hm ho hf hg hC hcs hfs hfr hdep
          match i, hm, ho, hf, hg, hfr, hdep with
          | 0, _, ho, hf, hg, hfr, hdep =>
            simp only [gTA, gCZ, gSI] at ho
            subst ho
            refine ⟨fun _ => ?_, fun hw => absurd (show true = false from hw) (by decide)⟩
            have ts : ρ (.tmp 0) = .pointer (some ⟨b, 0, none⟩) := hfr 0 (by kernel_rfl)
            simp [go_sem, ts]
            exact ⟨Below.refl _ _, rfl⟩
          | 1, _, ho, hf, hg, hfr, hdep =>
            simp only [gTA, gCZ, gCS, gSI] at ho
            subst ho
            refine ⟨fun _ => ?_, fun hw => absurd (show true = false from hw) (by decide)⟩
            have d0 : ρ (.tmp 25) = .pointer (some ⟨b, 0, none⟩) := hdep 0 25 (by kernel_rfl) (by kernel_rfl)
            simp [go_sem, d0]
            exact ⟨Below.refl _ _, rfl⟩
          | 2, _, ho, hf, hg, hfr, hdep =>
            simp only [gTA, gCZ, gCS, gSI] at ho
            subst ho
            refine ⟨fun _ => ?_, fun hw => absurd (show true = false from hw) (by decide)⟩
            have d0 : ρ (.tmp 26) = .pointer (some ⟨b, 0, none⟩) := hdep 1 26 (by kernel_rfl) (by kernel_rfl)
            simp [go_sem, d0]
            exact ⟨Below.refl _ _, rfl⟩
          | 3, _, ho, hf, hg, hfr, hdep =>
            simp only [gTA, gCZ, gCS, gSI] at ho
            subst ho
            refine ⟨fun _ => ?_, fun hw => absurd (show true = false from hw) (by decide)⟩
            have cc : w'.cell? ⟨b, 1, none⟩ = some (.slice wx s'.I.length wc) := (LQ.out.blk.below (hC.1 (hf 8 (by decide) (by kernel_rfl)))).cell rfl
            have d0 : ρ (.tmp 27) = .pointer (some ⟨b, 1, none⟩) := hdep 2 27 (by kernel_rfl) (by kernel_rfl)
            simp [go_sem, d0, cc]
            exact ⟨Below.refl _ _, rfl⟩
          | 4, _, ho, hf, hg, hfr, hdep =>
            simp only [gTA, gCZ, gCS, gSI] at ho
            subst ho
            refine ⟨fun _ => ?_, fun hw => absurd (show true = false from hw) (by decide)⟩
            have tq : ρ (.tmp 6) = .pointer (some ⟨wr.heap.size, 0, none⟩) := hfr 6 (by kernel_rfl)
            simp [go_sem, tq]
            exact ⟨Below.refl _ _, rfl⟩
          | 5, _, ho, hf, hg, hfr, hdep =>
            simp only [gTA, gCZ, gCS, gSI] at ho
            subst ho
            refine ⟨fun _ => ?_, fun hw => absurd (show true = false from hw) (by decide)⟩
            have cc : w'.cell? ⟨wr.heap.size, 1, none⟩ = some (.int .i64 pa) := (X2.out.below (hC.1 (hf 8 (by decide) (by kernel_rfl)))).cell rfl
            have d0 : ρ (.tmp 29) = .pointer (some ⟨wr.heap.size, 1, none⟩) := hdep 4 29 (by kernel_rfl) (by kernel_rfl)
            simp [go_sem, d0, cc]
            exact ⟨Below.refl _ _, rfl⟩
          | 6, _, ho, hf, hg, hfr, hdep =>
            simp only [gTA, gCZ, gCS, gSI] at ho
            subst ho
            refine ⟨fun _ => ?_, fun hw => absurd (show true = false from hw) (by decide)⟩
            have tq : ρ (.tmp 6) = .pointer (some ⟨wr.heap.size, 0, none⟩) := hfr 6 (by kernel_rfl)
            simp [go_sem, tq]
            exact ⟨Below.refl _ _, rfl⟩
          | 7, _, ho, hf, hg, hfr, hdep =>
            simp only [gTA, gCZ, gCS, gSI] at ho
            subst ho
            refine ⟨fun _ => ?_, fun hw => absurd (show true = false from hw) (by decide)⟩
            have cc : w'.cell? ⟨wr.heap.size, 2, none⟩ = some (.int .i64 pp) := (X2.out.below (hC.1 (hf 8 (by decide) (by kernel_rfl)))).cell rfl
            have d0 : ρ (.tmp 31) = .pointer (some ⟨wr.heap.size, 2, none⟩) := hdep 6 31 (by kernel_rfl) (by kernel_rfl)
            simp [go_sem, d0, cc]
            exact ⟨Below.refl _ _, rfl⟩
          | 8, hm, _, _, _, _, _ => exact absurd hm (by decide)
          | 9, _, ho, hf, hg, hfr, hdep =>
            simp only [gTA, gCZ, gCS, gSI] at ho
            subst ho
            refine ⟨fun _ => ?_, fun hw => absurd (show true = false from hw) (by decide)⟩
            have d0 : ρ (.tmp 33) = .int .i64 (takeC s'.I pa pp) := hdep 8 33 (by kernel_rfl) (by kernel_rfl)
            simp [go_sem, d0]
            exact ⟨Below.refl _ _, rfl⟩
          | n + 10, _, ho, _, _, _, _ => simp at ho
        · intro d i o ρ w' hm ho h0 hf hg hC hcs hfs hfr hdep
          match i, hm, ho, h0, hf, hg, hfr, hdep with
          | 0, hm, _, _, _, _, _, _ => exact absurd hm (by decide)
          | 1, hm, _, _, _, _, _, _ => exact absurd hm (by decide)
          | 2, hm, _, _, _, _, _, _ => exact absurd hm (by decide)
          | 3, hm, _, _, _, _, _, _ => exact absurd hm (by decide)
          | 4, hm, _, _, _, _, _, _ => exact absurd hm (by decide)
          | 5, hm, _, _, _, _, _, _ => exact absurd hm (by decide)
          | 6, hm, _, _, _, _, _, _ => exact absurd hm (by decide)
          | 7, hm, _, _, _, _, _, _ => exact absurd hm (by decide)
          | 8, _, ho, h0, hf, hg, hfr, hdep =>
            simp only [gTA, gCZ, gCS, gSI] at ho
            subst ho
            have t3 : ρ (.tmp 28) = .slice wx s'.I.length wc := hdep 3 28 (by kernel_rfl) (by kernel_rfl)
            have t5 : ρ (.tmp 30) = .int .i64 pa := hdep 5 30 (by kernel_rfl) (by kernel_rfl)
            have t7 : ρ (.tmp 32) = .int .i64 pp := hdep 7 32 (by kernel_rfl) (by kernel_rfl)
            refine ⟨rfl, ?_⟩
            simp [go_sem, t3, t5, t7, hfs, markUpon]
            refine (led_take1 (LQ.out.below (hC.1 h0)) HI'.out _ _).mono ?_
            rintro e u9 ⟨rfl, hL9, hC9'⟩
            exact ⟨rfl, fun e => absurd e (by simp [doneAt]), fun _ => ⟨hL9, (Chg.of_below (hC.1 h0)).trans' hC9'⟩⟩
          | 9, hm, _, _, _, _, _, _ => exact absurd hm (by decide)
          | n + 10, _, ho, _, _, _, _, _ => simp at ho
        · intro V w3 hC3 hS
          have e9 : V 9 = .int .i64 (takeC s'.I pa pp) := hS 9 (by decide) (by intro h; cases h)
          simp only [puts, e9]
          simp only [Act.put, List.setIfInBounds_toArray, List.set_cons_zero, List.set_cons_succ]
          clear hS e9
          obtain ⟨hL3, hG3⟩ := hC3.2 rfl
          have L3 := hiddenG hL3
          have G3 := hiddenG hG3
          have R3 := hiddenG (R2.out.keep (G3.out.block _ R2.out.lt HNR.out))
          clear hC3 hL3 hG3 LQ
          rw [HCO.out]
          by_cases h2 : co = 0
          · subst h2
            go_wp2
            go_roundg (Es.length - (i + 1))
            case measure => omega
            case rel =>
              refine ⟨i + 1, _, by omega, rfl, by go_num, ?_, L3.out, ((HC.out.trans' (Chg.of_below B1.out)).trans' G2.out).trans' G3.out, by show (enterS s'.ns nm).2.length ≤ _; omega, small_take HI'.out _ _, HO'.out⟩
              rw [HEQ.out, HDR.out]
              show (if _ then _ else _) = _
              rw [if_pos HCE.out, if_pos HCO.out]
          · have e2 : (co != 0) = true := by simpa using h2
            go_wp2_with (refine wpList_storeF _ rfl (.tmp 4) (.tmp 38) rfl rfl w.heap.size _ _ _ _ _ _ _ _ rfl rfl R3.out ?_; intro w9 hNF hUF; have NF := hiddenG hNF; have UF := hiddenG hUF; clear hNF hUF)
            have z0 : w9.cell? ⟨w.heap.size, 0, none⟩ = some (.int .i64 co) := NF.out.cell rfl
            have z1 : w9.cell? ⟨w.heap.size, 1, none⟩ = some (.int .u8 3) := NF.out.cell rfl
            have z2 : w9.cell? ⟨w.heap.size, 2, none⟩ = some (.int .i64 (i : Int)) := NF.out.cell rfl
            have z3 : w9.cell? ⟨w.heap.size, 3, none⟩ = some (.int .u8 2) := NF.out.cell rfl
            refine bodyPost_ret (v := .agg #[.int .i64 co, .int .u8 3, .int .i64 (i : Int), .int .u8 2]) (by simp [results, Tryz.results66, go_sem, z0, z1, z2, z3]) rfl ?_
            refine ⟨?_, ?_, ?_⟩
            · rw [HEQ.out, HDR.out]
              show _ = Ending.returned (flV (if _ then _ else _ : FL × LS).1)
              rw [if_pos HCE.out, if_neg (by rw [HCO.out]; exact h2), HCO.out]
              rfl
            · rw [HEQ.out, HDR.out]
              show ((if _ then _ else _ : FL × LS).1).code = 0 → _
              rw [if_pos HCE.out, if_neg (by rw [HCO.out]; exact h2), HCO.out]
              exact fun e => absurd e h2
            · exact (((((Chg.of_below BA.out).trans' HC.out).trans' (Chg.of_below B1.out)).trans' G2.out).trans' G3.out).trans (UF.out.chg (F := fun k => k = w.heap.size) rfl) fun k hk => .inr (by omega)
      · have e2 : (ce != 0) = true := by simpa using h1
        go_wp2_with (first
          | (refine wpList_storeF _ rfl (.tmp 4) (.tmp 24) rfl rfl w.heap.size _ _ _ _ _ _ _ _ rfl rfl R2.out ?_; intro w9 hNF hUF; have NF := hiddenG hNF; have UF := hiddenG hUF; clear hNF hUF)
          | (refine wpList_storeP _ rfl (.tmp 6) (.tmp 15) rfl rfl wr.heap.size _ _ _ _ _ _ rfl rfl (blkA_new 67 wr #[.string ⟨#[]⟩, .int .i64 0, .int .i64 0]) ?_; intro w1 hNA hUA; have X1 := hiddenG hNA; have b1 := ((Below.refl wr.heap.size wr).alloc (Nat.le_refl _) (.cells #[.string ⟨#[]⟩, .int .i64 0, .int .i64 0] 67)).trans (hUA.below (Nat.le_refl _) (by simp)); have B1 := hiddenG b1; have L1 := hiddenG (HLED.out.below b1); have R1 := hiddenG (NRW.out.below b1); have y0 : w1.cell? ⟨wr.heap.size, 0, none⟩ = some (.string (str nm)) := hNA.cell rfl; clear hNA hUA b1)
          | (go_at_call 85; (with_reducible refine (enter_any F w1 b s' nm L1.out (by omega)).mono ?_); rintro e w2 ⟨rfl, hL2, hG2⟩; have L2 := hiddenG hL2; have G2 := hiddenG hG2; have X2 := hiddenG (X1.out.keep (hG2.block _ X1.out.lt (fun e => by have := HLED.out.low _ e; omega))); have R2 := hiddenG (R1.out.keep (hG2.block _ R1.out.lt HNR.out)); rw [HCE.out]; clear hL2 hG2 y0))
        have z0 : w9.cell? ⟨w.heap.size, 0, none⟩ = some (.int .i64 ce) := NF.out.cell rfl
        have z1 : w9.cell? ⟨w.heap.size, 1, none⟩ = some (.int .u8 3) := NF.out.cell rfl
        have z2 : w9.cell? ⟨w.heap.size, 2, none⟩ = some (.int .i64 (i : Int)) := NF.out.cell rfl
        have z3 : w9.cell? ⟨w.heap.size, 3, none⟩ = some (.int .u8 0) := NF.out.cell rfl
        refine bodyPost_ret (v := .agg #[.int .i64 ce, .int .u8 3, .int .i64 (i : Int), .int .u8 0]) (by simp [results, Tryz.results66, go_sem, z0, z1, z2, z3]) rfl ?_
        refine ⟨?_, ?_, ?_⟩
        · rw [HEQ.out, HDR.out]
          show _ = Ending.returned (flV (if _ then _ else _ : FL × LS).1)
          rw [if_neg (by rw [HCE.out]; exact h1), HCE.out]
          rfl
        · rw [HEQ.out, HDR.out]
          show ((if _ then _ else _ : FL × LS).1).code = 0 → _
          rw [if_neg (by rw [HCE.out]; exact h1), HCE.out]
          exact fun e => absurd e h1
        · exact ((((Chg.of_below BA.out).trans' HC.out).trans' (Chg.of_below B1.out)).trans' G2.out).trans (UF.out.chg (F := fun k => k = w.heap.size) rfl) fun k hk => .inr (by omega)
    · have hii : ¬ (i : Int) < (Es.length : Int) := by omega
      have ei : i = Es.length := by omega
      go_wp2_with (refine wpList_storeF _ rfl (.tmp 4) (.tmp 40) rfl rfl w.heap.size _ _ _ _ _ _ _ _ rfl rfl NRW.out ?_; intro w9 hNF hUF; have NF := hiddenG hNF; have UF := hiddenG hUF; clear hNF hUF)
      have z0 : w9.cell? ⟨w.heap.size, 0, none⟩ = some (.int .i64 0) := NF.out.cell rfl
      have z1 : w9.cell? ⟨w.heap.size, 1, none⟩ = some (.int .u8 0) := NF.out.cell rfl
      have z2 : w9.cell? ⟨w.heap.size, 2, none⟩ = some (.int .i64 0) := NF.out.cell rfl
      have z3 : w9.cell? ⟨w.heap.size, 3, none⟩ = some (.int .u8 0) := NF.out.cell rfl
      refine bodyPost_ret (v := .agg #[.int .i64 0, .int .u8 0, .int .i64 0, .int .u8 0]) (by simp [results, Tryz.results66, go_sem, z0, z1, z2, z3]) rfl ?_
      refine ⟨?_, ?_, ?_⟩
      · rw [HEQ.out, ei, List.drop_length]
        rfl
      · rw [HEQ.out, ei, List.drop_length]
        exact fun _ => ⟨F, HLED.out.keep (fun k hk => UF.out.block k (HLED.out.low k hk) (fun e => HNR.out (e ▸ hk))) UF.out.size, fun k hk => .inl hk⟩
      · exact ((Chg.of_below BA.out).trans' HC.out).trans (UF.out.chg (F := fun k => k = w.heap.size) rfl) fun k hk => .inr (by omega)
set_option maxRecDepth 100000 in
set_option maxHeartbeats 4000000 in
theorem outFlaw_any (F : Nat → Prop) (w0 w : World) (b : Nat) (s : LS) (a : Option Addr) (Es : List GP) (cap : Nat) (h : Led F w b s) (hA : AtPt w0 a Es) (hw : Below w0.heap.size w0 w) (hF : ∀ k, F k → w0.heap.size ≤ k) (hn : Es.length ≤ 16) (hns : s.ns.length ≤ 100) (hI : SmallR s.I) (hO : SmallR s.O) :
    Calls Tryz.prog 67 #[.pointer (some ⟨b, 0, none⟩), .slice a Es.length cap] w (FlowE F w b (outsF Es 0 s)) := by
  have HA := hiddenG hA
  have HW := hiddenG hw
  have HF := hiddenG hF
  have sw := hw.size
  have ba := (Below.refl w.heap.size w).alloc (Nat.le_refl _) (.cells #[.int .i64 0, .int .u8 0, .int .i64 0, .int .u8 0] 104)
  have BA := hiddenG ba
  have HL := hiddenG (h.below ba)
  have HLO := hiddenG h.low
  have HI0 := hiddenG hI
  have HO0 := hiddenG hO
  have NR := hiddenG (blkA_new 104 w #[.int .i64 0, .int .u8 0, .int .i64 0, .int .u8 0])
  have hsz : (w.alloc (.cells #[.int .i64 0, .int .u8 0, .int .i64 0, .int .u8 0] 104)).heap.size = w.heap.size + 1 := by simp
  have hnI : (Es.length : Int) ≤ 16 := by omega
  clear h hA hw hF ba hI hO
  go_enter Tryz.func67, Tryz.ntmps67
  go_upto_region 1 with fail
  generalize w.alloc (.cells #[.int .i64 0, .int .u8 0, .int .i64 0, .int .u8 0] 104) = W0 at *
  go_wp2
  go_loopg [11] Es.length (fun gk v wr => ∃ (i : Nat) (s' : LS), i ≤ Es.length ∧ gk = Es.length - i ∧ v = .int .i64 (i : Int) ∧ outsF Es 0 s = outsF (Es.drop i) i s' ∧ Led F wr b s' ∧ Chg F W0 wr ∧ s'.ns.length ≤ s.ns.length + i ∧ SmallR s'.I ∧ SmallR s'.O)
  case atStart => exact ⟨0, s, Nat.zero_le _, rfl, rfl, rfl, HL.out, Chg.of_below (Below.refl _ _), Nat.le_refl _, HI0.out, HO0.out⟩
  case round =>
    obtain ⟨i, s', hi, rfl, rfl, hEq, hLed, hChg, q1, hI', hO'⟩ := hrel
    have HEQ := hiddenG hEq
    have HLED := hiddenG hLed
    have HC := hiddenG hChg
    have HI' := hiddenG hI'
    have HO' := hiddenG hO'
    have swr := hChg.size
    have HNR : Hid (¬ F w.heap.size) := fun e => by have := HLO.out _ e; omega
    have NRW := hiddenG (NR.out.keep (hChg.block _ (by omega) HNR.out))
    have BW : Hid (Below w0.heap.size w0 wr) := by
      have p1 := HW.out.trans (BA.out.mono sw)
      exact p1.trans (hChg.below HF.out p1.size)
    clear hEq hLed hChg hI' hO'
    by_cases hlt : i < Es.length
    · have hii : (i : Int) < (Es.length : Int) := by omega
      rcases HA.out with h0 | ⟨ab, ao, rfl, hc⟩
      · rw [h0] at hlt; simp at hlt
      obtain ⟨a0', a1', a2'⟩ := hc i hlt
      have a0 := cellG BW.out a0'
      have a1 := cellG BW.out a1'
      have a2 := cellG BW.out a2'
      have HDR := hiddenG (drop_P hlt)
      generalize nthP Es i = E at *
      obtain ⟨nm, pa, pp⟩ := E
      clear hc a0' a1' a2'
      obtain ⟨ce, hce⟩ : ∃ q, (enterS s'.ns nm).1 = q := ⟨_, rfl⟩
      have HCE := hiddenG hce
      have q4 := enter_len s'.ns nm
      clear hce
      by_cases h1 : ce = 0
      · subst h1
        obtain ⟨co, hco⟩ : ∃ q, takeC s'.O pa pp = q := ⟨_, rfl⟩
        have HCO := hiddenG hco
        clear hco
        go_upto_region 7 with (first
          | (refine wpList_storeP _ rfl (.tmp 6) (.tmp 15) rfl rfl wr.heap.size _ _ _ _ _ _ rfl rfl (blkA_new 67 wr #[.string ⟨#[]⟩, .int .i64 0, .int .i64 0]) ?_; intro w1 hNA hUA; have X1 := hiddenG hNA; have b1 := ((Below.refl wr.heap.size wr).alloc (Nat.le_refl _) (.cells #[.string ⟨#[]⟩, .int .i64 0, .int .i64 0] 67)).trans (hUA.below (Nat.le_refl _) (by simp)); have B1 := hiddenG b1; have L1 := hiddenG (HLED.out.below b1); have R1 := hiddenG (NRW.out.below b1); have y0 : w1.cell? ⟨wr.heap.size, 0, none⟩ = some (.string (str nm)) := hNA.cell rfl; clear hNA hUA b1)
          | (go_at_call 85; (with_reducible refine (enter_any F w1 b s' nm L1.out (by omega)).mono ?_); rintro e w2 ⟨rfl, hL2, hG2⟩; have L2 := hiddenG hL2; have G2 := hiddenG hG2; have X2 := hiddenG (X1.out.keep (hG2.block _ X1.out.lt (fun e => by have := HLED.out.low _ e; omega))); have R2 := hiddenG (R1.out.keep (hG2.block _ R1.out.lt HNR.out)); rw [HCE.out]; clear hL2 hG2 y0))
        obtain ⟨m', u1, u2, E1, E2, hQ0⟩ := id L2.out
        obtain ⟨wx, wc, hw1⟩ := hQ0.outs.slice
        subst hw1
        have LQ := hiddenG hQ0
        clear hQ0
        refine wp_region_gen [8] (fun d i u z => match i with
            | 0 => z = .pointer (some ⟨b, 0, none⟩)
            | 1 => z = .pointer (some ⟨b, 0, none⟩)
            | 2 => z = .pointer (some ⟨b, 2, none⟩)
            | 3 => z = .slice wx s'.O.length wc
            | 4 => z = .pointer (some ⟨wr.heap.size, 1, none⟩)
            | 5 => z = .int .i64 pa
            | 6 => z = .pointer (some ⟨wr.heap.size, 2, none⟩)
            | 7 => z = .int .i64 pp
            | 8 => z = .int .i64 (takeC s'.O pa pp)
            | 9 => z = .int .i64 (takeC s'.O pa pp)
            | _ => True) (fun d u => (d 8 = false → Below w2.heap.size w2 u) ∧ (d 8 = true → TookV F w2 b ⟨(enterS s'.ns nm).2, s'.I, takeR s'.O pa pp⟩ u)) (by kernel_rfl) (by kernel_rfl) (by kernel_rfl) ?_ ?_ ?_ ?_ ?_ ?_ (by kernel_rfl)
        · intro d i w v w' h hb
          match i, h with
          | 0, h => exact h
          | 1, h => exact h
          | 2, h => exact h
          | 3, h => exact h
          | 4, h => exact h
          | 5, h => exact h
          | 6, h => exact h
          | 7, h => exact h
          | 8, h => exact h
          | 9, h => exact h
          | _ + 10, _ => trivial
        · intro d u u' h hb
          exact ⟨fun e => (h.1 e).trans (hb.mono (h.1 e).size), fun e => (h.2 e).later hb⟩
        · exact ⟨fun _ => Below.refl _ _, fun e => absurd e (by decide)⟩
        · intro d i o ρ w' hm ho hf hg hC hcs hfs hfr hdep
          match i, hm, ho, hf, hg, hfr, hdep with
          | 0, _, ho, hf, hg, hfr, hdep =>
            simp only [gTA, gCZ, gSI] at ho
            subst ho
            refine ⟨fun _ => ?_, fun hw => absurd (show true = false from hw) (by decide)⟩
            have ts : ρ (.tmp 0) = .pointer (some ⟨b, 0, none⟩) := hfr 0 (by kernel_rfl)
            simp [go_sem, ts]
            exact ⟨Below.refl _ _, rfl⟩
          | 1, _, ho, hf, hg, hfr, hdep =>
            simp only [gTA, gCZ, gCS, gSI] at ho
            subst ho
            refine ⟨fun _ => ?_, fun hw => absurd (show true = false from hw) (by decide)⟩
            have d0 : ρ (.tmp 25) = .pointer (some ⟨b, 0, none⟩) := hdep 0 25 (by kernel_rfl) (by kernel_rfl)
            simp [go_sem, d0]
            exact ⟨Below.refl _ _, rfl⟩
          | 2, _, ho, hf, hg, hfr, hdep =>
            simp only [gTA, gCZ, gCS, gSI] at ho
            subst ho
            refine ⟨fun _ => ?_, fun hw => absurd (show true = false from hw) (by decide)⟩
            have d0 : ρ (.tmp 26) = .pointer (some ⟨b, 0, none⟩) := hdep 1 26 (by kernel_rfl) (by kernel_rfl)
            simp [go_sem, d0]
            exact ⟨Below.refl _ _, rfl⟩
          | 3, _, ho, hf, hg, hfr, hdep =>
            simp only [gTA, gCZ, gCS, gSI] at ho
            subst ho
            refine ⟨fun _ => ?_, fun hw => absurd (show true = false from hw) (by decide)⟩
            have cc : w'.cell? ⟨b, 2, none⟩ = some (.slice wx s'.O.length wc) := (LQ.out.blk.below (hC.1 (hf 8 (by decide) (by kernel_rfl)))).cell rfl
            have d0 : ρ (.tmp 27) = .pointer (some ⟨b, 2, none⟩) := hdep 2 27 (by kernel_rfl) (by kernel_rfl)
            simp [go_sem, d0, cc]
            exact ⟨Below.refl _ _, rfl⟩
          | 4, _, ho, hf, hg, hfr, hdep =>
            simp only [gTA, gCZ, gCS, gSI] at ho
            subst ho
            refine ⟨fun _ => ?_, fun hw => absurd (show true = false from hw) (by decide)⟩
            have tq : ρ (.tmp 6) = .pointer (some ⟨wr.heap.size, 0, none⟩) := hfr 6 (by kernel_rfl)
            simp [go_sem, tq]
            exact ⟨Below.refl _ _, rfl⟩
          | 5, _, ho, hf, hg, hfr, hdep =>
            simp only [gTA, gCZ, gCS, gSI] at ho
            subst ho
            refine ⟨fun _ => ?_, fun hw => absurd (show true = false from hw) (by decide)⟩
            have cc : w'.cell? ⟨wr.heap.size, 1, none⟩ = some (.int .i64 pa) := (X2.out.below (hC.1 (hf 8 (by decide) (by kernel_rfl)))).cell rfl
            have d0 : ρ (.tmp 29) = .pointer (some ⟨wr.heap.size, 1, none⟩) := hdep 4 29 (by kernel_rfl) (by kernel_rfl)
            simp [go_sem, d0, cc]
            exact ⟨Below.refl _ _, rfl⟩
          | 6, _, ho, hf, hg, hfr, hdep =>
            simp only [gTA, gCZ, gCS, gSI] at ho
            subst ho
            refine ⟨fun _ => ?_, fun hw => absurd (show true = false from hw) (by decide)⟩
            have tq : ρ (.tmp 6) = .pointer (some ⟨wr.heap.size, 0, none⟩) := hfr 6 (by kernel_rfl)
            simp [go_sem, tq]
            exact ⟨Below.refl _ _, rfl⟩
          | 7, _, ho, hf, hg, hfr, hdep =>
            simp only [gTA, gCZ, gCS, gSI] at ho
            subst ho
            refine ⟨fun _ => ?_, fun hw => absurd (show true = false from hw) (by decide)⟩
            have cc : w'.cell? ⟨wr.heap.size, 2, none⟩ = some (.int .i64 pp) := (X2.out.below (hC.1 (hf 8 (by decide) (by kernel_rfl)))).cell rfl
            have d0 : ρ (.tmp 31) = .pointer (some ⟨wr.heap.size, 2, none⟩) := hdep 6 31 (by kernel_rfl) (by kernel_rfl)
            simp [go_sem, d0, cc]
            exact ⟨Below.refl _ _, rfl⟩
          | 8, hm, _, _, _, _, _ => exact absurd hm (by decide)
          | 9, _, ho, hf, hg, hfr, hdep =>
            simp only [gTA, gCZ, gCS, gSI] at ho
            subst ho
            refine ⟨fun _ => ?_, fun hw => absurd (show true = false from hw) (by decide)⟩
            have d0 : ρ (.tmp 33) = .int .i64 (takeC s'.O pa pp) := hdep 8 33 (by kernel_rfl) (by kernel_rfl)
            simp [go_sem, d0]
            exact ⟨Below.refl _ _, rfl⟩
          | n + 10, _, ho, _, _, _, _ => simp at ho
        · intro d i o ρ w' hm ho h0 hf hg hC hcs hfs hfr hdep
          match i, hm, ho, h0, hf, hg, hfr, hdep with
          | 0, hm, _, _, _, _, _, _ => exact absurd hm (by decide)
          | 1, hm, _, _, _, _, _, _ => exact absurd hm (by decide)
          | 2, hm, _, _, _, _, _, _ => exact absurd hm (by decide)
          | 3, hm, _, _, _, _, _, _ => exact absurd hm (by decide)
          | 4, hm, _, _, _, _, _, _ => exact absurd hm (by decide)
          | 5, hm, _, _, _, _, _, _ => exact absurd hm (by decide)
          | 6, hm, _, _, _, _, _, _ => exact absurd hm (by decide)
          | 7, hm, _, _, _, _, _, _ => exact absurd hm (by decide)
          | 8, _, ho, h0, hf, hg, hfr, hdep =>
            simp only [gTA, gCZ, gCS, gSI] at ho
            subst ho
            have t3 : ρ (.tmp 28) = .slice wx s'.O.length wc := hdep 3 28 (by kernel_rfl) (by kernel_rfl)
            have t5 : ρ (.tmp 30) = .int .i64 pa := hdep 5 30 (by kernel_rfl) (by kernel_rfl)
            have t7 : ρ (.tmp 32) = .int .i64 pp := hdep 7 32 (by kernel_rfl) (by kernel_rfl)
            refine ⟨rfl, ?_⟩
            simp [go_sem, t3, t5, t7, hfs, markUpon]
            refine (led_take2 (LQ.out.below (hC.1 h0)) HO'.out _ _).mono ?_
            rintro e u9 ⟨rfl, hL9, hC9'⟩
            exact ⟨rfl, fun e => absurd e (by simp [doneAt]), fun _ => ⟨hL9, (Chg.of_below (hC.1 h0)).trans' hC9'⟩⟩
          | 9, hm, _, _, _, _, _, _ => exact absurd hm (by decide)
          | n + 10, _, ho, _, _, _, _, _ => simp at ho
        · intro V w3 hC3 hS
          have e9 : V 9 = .int .i64 (takeC s'.O pa pp) := hS 9 (by decide) (by intro h; cases h)
          simp only [puts, e9]
          simp only [Act.put, List.setIfInBounds_toArray, List.set_cons_zero, List.set_cons_succ]
          clear hS e9
          obtain ⟨hL3, hG3⟩ := hC3.2 rfl
          have L3 := hiddenG hL3
          have G3 := hiddenG hG3
          have R3 := hiddenG (R2.out.keep (G3.out.block _ R2.out.lt HNR.out))
          clear hC3 hL3 hG3 LQ
          rw [HCO.out]
          by_cases h2 : co = 0
          · subst h2
            go_wp2
            go_roundg (Es.length - (i + 1))
            case measure => omega
            case rel =>
              refine ⟨i + 1, _, by omega, rfl, by go_num, ?_, L3.out, ((HC.out.trans' (Chg.of_below B1.out)).trans' G2.out).trans' G3.out, by show (enterS s'.ns nm).2.length ≤ _; omega, HI'.out, small_take HO'.out _ _⟩
              rw [HEQ.out, HDR.out]
              show (if _ then _ else _) = _
              rw [if_pos HCE.out, if_pos HCO.out]
          · have e2 : (co != 0) = true := by simpa using h2
            go_wp2_with (refine wpList_storeF _ rfl (.tmp 4) (.tmp 38) rfl rfl w.heap.size _ _ _ _ _ _ _ _ rfl rfl R3.out ?_; intro w9 hNF hUF; have NF := hiddenG hNF; have UF := hiddenG hUF; clear hNF hUF)
            have z0 : w9.cell? ⟨w.heap.size, 0, none⟩ = some (.int .i64 co) := NF.out.cell rfl
            have z1 : w9.cell? ⟨w.heap.size, 1, none⟩ = some (.int .u8 4) := NF.out.cell rfl
            have z2 : w9.cell? ⟨w.heap.size, 2, none⟩ = some (.int .i64 (i : Int)) := NF.out.cell rfl
            have z3 : w9.cell? ⟨w.heap.size, 3, none⟩ = some (.int .u8 1) := NF.out.cell rfl
            refine bodyPost_ret (v := .agg #[.int .i64 co, .int .u8 4, .int .i64 (i : Int), .int .u8 1]) (by simp [results, Tryz.results67, go_sem, z0, z1, z2, z3]) rfl ?_
            refine ⟨?_, ?_, ?_⟩
            · rw [HEQ.out, HDR.out]
              show _ = Ending.returned (flV (if _ then _ else _ : FL × LS).1)
              rw [if_pos HCE.out, if_neg (by rw [HCO.out]; exact h2), HCO.out]
              rfl
            · rw [HEQ.out, HDR.out]
              show ((if _ then _ else _ : FL × LS).1).code = 0 → _
              rw [if_pos HCE.out, if_neg (by rw [HCO.out]; exact h2), HCO.out]
              exact fun e => absurd e h2
            · exact (((((Chg.of_below BA.out).trans' HC.out).trans' (Chg.of_below B1.out)).trans' G2.out).trans' G3.out).trans (UF.out.chg (F := fun k => k = w.heap.size) rfl) fun k hk => .inr (by omega)
      · have e2 : (ce != 0) = true := by simpa using h1
        go_wp2_with (first
          | (refine wpList_storeF _ rfl (.tmp 4) (.tmp 24) rfl rfl w.heap.size _ _ _ _ _ _ _ _ rfl rfl R2.out ?_; intro w9 hNF hUF; have NF := hiddenG hNF; have UF := hiddenG hUF; clear hNF hUF)
          | (refine wpList_storeP _ rfl (.tmp 6) (.tmp 15) rfl rfl wr.heap.size _ _ _ _ _ _ rfl rfl (blkA_new 67 wr #[.string ⟨#[]⟩, .int .i64 0, .int .i64 0]) ?_; intro w1 hNA hUA; have X1 := hiddenG hNA; have b1 := ((Below.refl wr.heap.size wr).alloc (Nat.le_refl _) (.cells #[.string ⟨#[]⟩, .int .i64 0, .int .i64 0] 67)).trans (hUA.below (Nat.le_refl _) (by simp)); have B1 := hiddenG b1; have L1 := hiddenG (HLED.out.below b1); have R1 := hiddenG (NRW.out.below b1); have y0 : w1.cell? ⟨wr.heap.size, 0, none⟩ = some (.string (str nm)) := hNA.cell rfl; clear hNA hUA b1)
          | (go_at_call 85; (with_reducible refine (enter_any F w1 b s' nm L1.out (by omega)).mono ?_); rintro e w2 ⟨rfl, hL2, hG2⟩; have L2 := hiddenG hL2; have G2 := hiddenG hG2; have X2 := hiddenG (X1.out.keep (hG2.block _ X1.out.lt (fun e => by have := HLED.out.low _ e; omega))); have R2 := hiddenG (R1.out.keep (hG2.block _ R1.out.lt HNR.out)); rw [HCE.out]; clear hL2 hG2 y0))
        have z0 : w9.cell? ⟨w.heap.size, 0, none⟩ = some (.int .i64 ce) := NF.out.cell rfl
        have z1 : w9.cell? ⟨w.heap.size, 1, none⟩ = some (.int .u8 4) := NF.out.cell rfl
        have z2 : w9.cell? ⟨w.heap.size, 2, none⟩ = some (.int .i64 (i : Int)) := NF.out.cell rfl
        have z3 : w9.cell? ⟨w.heap.size, 3, none⟩ = some (.int .u8 0) := NF.out.cell rfl
        refine bodyPost_ret (v := .agg #[.int .i64 ce, .int .u8 4, .int .i64 (i : Int), .int .u8 0]) (by simp [results, Tryz.results67, go_sem, z0, z1, z2, z3]) rfl ?_
        refine ⟨?_, ?_, ?_⟩
        · rw [HEQ.out, HDR.out]
          show _ = Ending.returned (flV (if _ then _ else _ : FL × LS).1)
          rw [if_neg (by rw [HCE.out]; exact h1), HCE.out]
          rfl
        · rw [HEQ.out, HDR.out]
          show ((if _ then _ else _ : FL × LS).1).code = 0 → _
          rw [if_neg (by rw [HCE.out]; exact h1), HCE.out]
          exact fun e => absurd e h1
        · exact ((((Chg.of_below BA.out).trans' HC.out).trans' (Chg.of_below B1.out)).trans' G2.out).trans (UF.out.chg (F := fun k => k = w.heap.size) rfl) fun k hk => .inr (by omega)
    · have hii : ¬ (i : Int) < (Es.length : Int) := by omega
      have ei : i = Es.length := by omega
      go_wp2_with (refine wpList_storeF _ rfl (.tmp 4) (.tmp 40) rfl rfl w.heap.size _ _ _ _ _ _ _ _ rfl rfl NRW.out ?_; intro w9 hNF hUF; have NF := hiddenG hNF; have UF := hiddenG hUF; clear hNF hUF)
      have z0 : w9.cell? ⟨w.heap.size, 0, none⟩ = some (.int .i64 0) := NF.out.cell rfl
      have z1 : w9.cell? ⟨w.heap.size, 1, none⟩ = some (.int .u8 0) := NF.out.cell rfl
      have z2 : w9.cell? ⟨w.heap.size, 2, none⟩ = some (.int .i64 0) := NF.out.cell rfl
      have z3 : w9.cell? ⟨w.heap.size, 3, none⟩ = some (.int .u8 0) := NF.out.cell rfl
      refine bodyPost_ret (v := .agg #[.int .i64 0, .int .u8 0, .int .i64 0, .int .u8 0]) (by simp [results, Tryz.results67, go_sem, z0, z1, z2, z3]) rfl ?_
      refine ⟨?_, ?_, ?_⟩
      · rw [HEQ.out, ei, List.drop_length]
        rfl
      · rw [HEQ.out, ei, List.drop_length]
        exact fun _ => ⟨F, HLED.out.keep (fun k hk => UF.out.block k (HLED.out.low k hk) (fun e => HNR.out (e ▸ hk))) UF.out.size, fun k hk => .inl hk⟩
      · exact ((Chg.of_below BA.out).trans' HC.out).trans (UF.out.chg (F := fun k => k = w.heap.size) rfl) fun k hk => .inr (by omega)
set_option maxRecDepth 100000 in
set_option maxHeartbeats 2000000 in
theorem openFlaw_any (F : Nat → Prop) (w : World) (b : Nat) (s : LS) (a : Option Addr) (n cap : Nat) (h : Led F w b s) (hI : SmallR s.I) (hO : SmallR s.O) (h1 : n ≤ s.I.length) (h2 : n ≤ s.O.length) :
    Calls Tryz.prog 68 #[.pointer (some ⟨b, 0, none⟩), .slice a n cap] w fun e w' => e = .returned (flV (openF s.I s.O n 0)) ∧ Below w.heap.size w w' := by
  have ba := (Below.refl w.heap.size w).alloc (Nat.le_refl _) (.cells #[.int .i64 0, .int .u8 0, .int .i64 0, .int .u8 0] 104)
  have BA := hiddenG ba
  have NR := hiddenG (blkA_new 104 w #[.int .i64 0, .int .u8 0, .int .i64 0, .int .u8 0])
  obtain ⟨m, v1, v2, F1, F2, hP⟩ := h.below ba
  obtain ⟨vx, vc, rfl⟩ := hP.ins.slice
  obtain ⟨wx, wc, rfl⟩ := hP.outs.slice
  have GI : Hid (∀ i, i < n → Calls Tryz.prog 88 #[.slice vx s.I.length vc, .int .i64 (i : Int)] (w.alloc (.cells #[.int .i64 0, .int .u8 0, .int .i64 0, .int .u8 0] 104)) fun e w' => e = .returned (.bool (gapB s.I i)) ∧ w' = w.alloc (.cells #[.int .i64 0, .int .u8 0, .int .i64 0, .int .u8 0] 104)) := fun i hi => gap_any F1 _ _ s.I i hP.ins (by omega) (by have := hI.1; omega) (fun j => by have := hI.2 j; omega)
  have GO : Hid (∀ i, i < n → Calls Tryz.prog 88 #[.slice wx s.O.length wc, .int .i64 (i : Int)] (w.alloc (.cells #[.int .i64 0, .int .u8 0, .int .i64 0, .int .u8 0] 104)) fun e w' => e = .returned (.bool (gapB s.O i)) ∧ w' = w.alloc (.cells #[.int .i64 0, .int .u8 0, .int .i64 0, .int .u8 0] 104)) := fun i hi => gap_any F2 _ _ s.O i hP.outs (by omega) (by have := hO.1; omega) (fun j => by have := hO.2 j; omega)
  have y1 := hP.blk.cell (k := 1) rfl
  have y2 := hP.blk.cell (k := 2) rfl
  have hnn : (n : Int) ≤ 200 := by have := hI.1; omega
  clear h hP hI hO ba h1 h2
  go_enter Tryz.func68, Tryz.ntmps68
  go_upto_region 1 with fail
  generalize w.alloc (.cells #[.int .i64 0, .int .u8 0, .int .i64 0, .int .u8 0] 104) = W0 at *
  go_wp2
  go_loopg [8] n (fun gk v wr => ∃ i : Nat, i ≤ n ∧ gk = n - i ∧ v = .int .i64 (i : Int) ∧ wr = W0 ∧ openF s.I s.O n 0 = openF s.I s.O (n - i) i)
  case atStart => exact ⟨0, Nat.zero_le _, rfl, rfl, rfl, rfl⟩
  case round =>
    obtain ⟨i, hi, rfl, rfl, rfl, hEq⟩ := hrel
    have HEQ := hiddenG hEq
    clear hEq
    by_cases hlt : i < n
    · have hii : (i : Int) < (n : Int) := by omega
      have HGI := hiddenG (GI.out i hlt)
      have HGO := hiddenG (GO.out i hlt)
      have HU : Hid (openF s.I s.O (n - i) i = if gapB s.I i = true ∨ gapB s.O i = true then ⟨87, 1, i, 0⟩ else openF s.I s.O (n - (i + 1)) (i + 1)) := by
        show _ = _
        obtain ⟨q, hq⟩ : ∃ q, n - i = q + 1 := ⟨n - i - 1, by omega⟩
        rw [hq, show n - (i + 1) = q by omega]
        rfl
      generalize gapB s.I i = p1 at *
      generalize gapB s.O i = p2 at *
      cases p1
      · cases p2
        · go_wp2_with (first
            | (go_at_call 88; (with_reducible refine HGI.out.mono ?_); rintro e w' ⟨rfl, rfl⟩)
            | (go_at_call 88; (with_reducible refine HGO.out.mono ?_); rintro e w' ⟨rfl, rfl⟩))
          go_roundg (n - (i + 1))
          case measure => omega
          case rel => exact ⟨i + 1, by omega, rfl, by go_num, rfl, by rw [HEQ.out, HU.out]; rfl⟩
        · go_wp2_with (first
            | (refine wpList_storeF _ rfl (.tmp 4) (.tmp 26) rfl rfl w.heap.size _ _ _ _ _ _ _ _ rfl rfl NR.out ?_; intro w9 hNF hUF; have NF := hiddenG hNF; have UF := hiddenG hUF; clear hNF hUF)
            | (go_at_call 88; (with_reducible refine HGI.out.mono ?_); rintro e w' ⟨rfl, rfl⟩)
            | (go_at_call 88; (with_reducible refine HGO.out.mono ?_); rintro e w' ⟨rfl, rfl⟩))
          have z0 : w9.cell? ⟨w.heap.size, 0, none⟩ = some (.int .i64 87) := NF.out.cell rfl
          have z1 : w9.cell? ⟨w.heap.size, 1, none⟩ = some (.int .u8 1) := NF.out.cell rfl
          have z2 : w9.cell? ⟨w.heap.size, 2, none⟩ = some (.int .i64 (i : Int)) := NF.out.cell rfl
          have z3 : w9.cell? ⟨w.heap.size, 3, none⟩ = some (.int .u8 0) := NF.out.cell rfl
          refine bodyPost_ret (v := .agg #[.int .i64 87, .int .u8 1, .int .i64 (i : Int), .int .u8 0]) (by simp [results, Tryz.results68, go_sem, z0, z1, z2, z3]) rfl ?_
          exact ⟨by rw [HEQ.out, HU.out]; rfl, BA.out.trans (UF.out.below (Nat.le_refl _) BA.out.size)⟩
      · go_wp2_with (first
          | (refine wpList_storeF _ rfl (.tmp 4) (.tmp 26) rfl rfl w.heap.size _ _ _ _ _ _ _ _ rfl rfl NR.out ?_; intro w9 hNF hUF; have NF := hiddenG hNF; have UF := hiddenG hUF; clear hNF hUF)
          | (go_at_call 88; (with_reducible refine HGI.out.mono ?_); rintro e w' ⟨rfl, rfl⟩))
        have z0 : w9.cell? ⟨w.heap.size, 0, none⟩ = some (.int .i64 87) := NF.out.cell rfl
        have z1 : w9.cell? ⟨w.heap.size, 1, none⟩ = some (.int .u8 1) := NF.out.cell rfl
        have z2 : w9.cell? ⟨w.heap.size, 2, none⟩ = some (.int .i64 (i : Int)) := NF.out.cell rfl
        have z3 : w9.cell? ⟨w.heap.size, 3, none⟩ = some (.int .u8 0) := NF.out.cell rfl
        refine bodyPost_ret (v := .agg #[.int .i64 87, .int .u8 1, .int .i64 (i : Int), .int .u8 0]) (by simp [results, Tryz.results68, go_sem, z0, z1, z2, z3]) rfl ?_
        exact ⟨by rw [HEQ.out, HU.out, if_pos (by simp)]; rfl, BA.out.trans (UF.out.below (Nat.le_refl _) BA.out.size)⟩
    · have hii : ¬ (i : Int) < (n : Int) := by omega
      have ei : n - i = 0 := by omega
      go_wp2_with (refine wpList_storeF _ rfl (.tmp 4) (.tmp 28) rfl rfl w.heap.size _ _ _ _ _ _ _ _ rfl rfl NR.out ?_; intro w9 hNF hUF; have NF := hiddenG hNF; have UF := hiddenG hUF; clear hNF hUF)
      have z0 : w9.cell? ⟨w.heap.size, 0, none⟩ = some (.int .i64 0) := NF.out.cell rfl
      have z1 : w9.cell? ⟨w.heap.size, 1, none⟩ = some (.int .u8 0) := NF.out.cell rfl
      have z2 : w9.cell? ⟨w.heap.size, 2, none⟩ = some (.int .i64 0) := NF.out.cell rfl
      have z3 : w9.cell? ⟨w.heap.size, 3, none⟩ = some (.int .u8 0) := NF.out.cell rfl
      refine bodyPost_ret (v := .agg #[.int .i64 0, .int .u8 0, .int .i64 0, .int .u8 0]) (by simp [results, Tryz.results68, go_sem, z0, z1, z2, z3]) rfl ?_
      exact ⟨by rw [HEQ.out, ei]; rfl, BA.out.trans (UF.out.below (Nat.le_refl _) BA.out.size)⟩
def SurE (w : World) (k : Int) (n : Int) (e : Ending) (w' : World) : Prop := e = .returned (.agg #[.int .i64 81, .int .u8 k, .int .i64 n, .int .u8 0]) ∧ Below w.heap.size w w'
set_option maxRecDepth 100000 in
theorem surplus_any (k n : Int) (w : World) : Calls Tryz.prog 84 #[.int .u8 k, .int .i64 n] w (SurE w k n) := by
  have BA := hiddenG ((Below.refl w.heap.size w).alloc (Nat.le_refl _) (.cells #[.int .i64 0, .int .u8 0, .int .i64 0, .int .u8 0] 104))
  have NR := hiddenG (blkA_new 104 w #[.int .i64 0, .int .u8 0, .int .i64 0, .int .u8 0])
  go_enter Tryz.func84, Tryz.ntmps84
  go_upto_region 1 with fail
  generalize w.alloc (.cells #[.int .i64 0, .int .u8 0, .int .i64 0, .int .u8 0] 104) = W0 at *
  go_wp2_with (refine wpList_storeF _ rfl (.tmp 4) (.tmp 7) rfl rfl w.heap.size _ _ _ _ _ _ _ _ rfl rfl NR.out ?_; intro w9 hNF hUF; have NF := hiddenG hNF; have UF := hiddenG hUF; clear hNF hUF)
  have z0 : w9.cell? ⟨w.heap.size, 0, none⟩ = some (.int .i64 81) := NF.out.cell rfl
  have z1 : w9.cell? ⟨w.heap.size, 1, none⟩ = some (.int .u8 k) := NF.out.cell rfl
  have z2 : w9.cell? ⟨w.heap.size, 2, none⟩ = some (.int .i64 n) := NF.out.cell rfl
  have z3 : w9.cell? ⟨w.heap.size, 3, none⟩ = some (.int .u8 0) := NF.out.cell rfl
  refine bodyPost_ret (v := .agg #[.int .i64 81, .int .u8 k, .int .i64 n, .int .u8 0]) (by simp [results, Tryz.results84, go_sem, z0, z1, z2, z3]) rfl ?_
  exact ⟨rfl, BA.out.trans (UF.out.below (Nat.le_refl _) BA.out.size)⟩
set_option maxRecDepth 100000 in
set_option maxHeartbeats 4000000 in
theorem headFlaw_any (g : GG) (a1 a2 a3 a4 : Option Addr) (c1 c2 c3 c4 : Nat) (w : World) (l1 : g.actors.length ≤ 1000000000000000) (l2 : g.edges.length ≤ 1000000000000000) (l3 : g.ins.length ≤ 1000000000000000) (l4 : g.outs.length ≤ 1000000000000000) :
    Calls Tryz.prog 63 #[.agg #[.string (str g.name), .slice a1 g.actors.length c1, .slice a2 g.edges.length c2, .slice a3 g.ins.length c3, .slice a4 g.outs.length c4]] w fun e w' => e = .returned (flV (headF g)) ∧ Below w.heap.size w w' := by
  have ba := ((Below.refl w.heap.size w).alloc (Nat.le_refl _) (.cells #[.string (str g.name), .slice a1 g.actors.length c1, .slice a2 g.edges.length c2, .slice a3 g.ins.length c3, .slice a4 g.outs.length c4] 26)).alloc (by simp) (.cells #[.int .i64 0, .int .u8 0, .int .i64 0, .int .u8 0] 104)
  have BA := hiddenG ba
  have gg := (blkA_new 26 w #[.string (str g.name), .slice a1 g.actors.length c1, .slice a2 g.edges.length c2, .slice a3 g.ins.length c3, .slice a4 g.outs.length c4]).below ((Below.refl _ _).alloc (Nat.le_refl _) (.cells #[.int .i64 0, .int .u8 0, .int .i64 0, .int .u8 0] 104))
  have nr : BlkA 104 (w.heap.size + 1) ((w.alloc (.cells #[.string (str g.name), .slice a1 g.actors.length c1, .slice a2 g.edges.length c2, .slice a3 g.ins.length c3, .slice a4 g.outs.length c4] 26)).alloc (.cells #[.int .i64 0, .int .u8 0, .int .i64 0, .int .u8 0] 104)) #[.int .i64 0, .int .u8 0, .int .i64 0, .int .u8 0] := by
    have h3 := blkA_new 104 (w.alloc (.cells #[.string (str g.name), .slice a1 g.actors.length c1, .slice a2 g.edges.length c2, .slice a3 g.ins.length c3, .slice a4 g.outs.length c4] 26)) #[.int .i64 0, .int .u8 0, .int .i64 0, .int .u8 0]
    rw [World.size_alloc] at h3
    exact h3
  have HG := hiddenG gg
  have NR := hiddenG nr
  have NM := hiddenG (name_any g.name)
  have y0 := gg.cell (k := 0) rfl
  clear ba gg nr
  obtain ⟨n1, h1⟩ : ∃ q, g.actors.length = q := ⟨_, rfl⟩
  obtain ⟨n2, h2⟩ : ∃ q, g.edges.length = q := ⟨_, rfl⟩
  obtain ⟨n3, h3⟩ : ∃ q, g.ins.length = q := ⟨_, rfl⟩
  obtain ⟨n4, h4⟩ : ∃ q, g.outs.length = q := ⟨_, rfl⟩
  obtain ⟨nb, hnb⟩ : ∃ q, nameB g.name = q := ⟨_, rfl⟩
  have hd : headF g = if nb = false then ⟨82, 0, 0, 0⟩ else if n1 = 0 then ⟨80, 0, 0, 0⟩ else if 32 < n1 then ⟨81, 1, 32, 0⟩ else if 96 < n2 then ⟨81, 2, 96, 0⟩ else if 16 < n3 then ⟨81, 3, 16, 0⟩ else if 16 < n4 then ⟨81, 4, 16, 0⟩ else fl0 := by
    unfold headF
    rw [h1, h2, h3, h4, hnb]
  have HD := hiddenG hd
  rw [hnb] at NM
  rw [h1, h2, h3, h4] at BA HG NR y0
  rw [h1] at l1
  rw [h2] at l2
  rw [h3] at l3
  rw [h4] at l4
  rw [h1, h2, h3, h4]
  clear hd h1 h2 h3 h4 hnb
  cases nb
  · go_enter Tryz.func63, Tryz.ntmps63
    go_upto_region 1 with fail
    generalize (w.alloc (.cells #[.string (str g.name), .slice a1 n1 c1, .slice a2 n2 c2, .slice a3 n3 c3, .slice a4 n4 c4] 26)).alloc (.cells #[.int .i64 0, .int .u8 0, .int .i64 0, .int .u8 0] 104) = W0 at *
    go_wp2_with (first | (refine wpList_storeF _ rfl (.tmp 2) (.tmp 8) rfl rfl (w.heap.size + 1) _ _ _ _ _ _ _ _ rfl rfl N1.out ?_; intro w9 hNF hUF; have NF := hiddenG hNF; have UF := hiddenG hUF; clear hNF hUF) | (go_at_call 83; (with_reducible refine (NM.out W0).mono ?_); rintro e w1 ⟨rfl, b1⟩; have G1 := HG.out.below b1; have N1 := hiddenG (NR.out.below b1); have B1 := hiddenG b1; have x1 : w1.cell? ⟨w.heap.size, 1, none⟩ = some (.slice a1 n1 c1) := G1.cell rfl; have x2 : w1.cell? ⟨w.heap.size, 2, none⟩ = some (.slice a2 n2 c2) := G1.cell rfl; have x3 : w1.cell? ⟨w.heap.size, 3, none⟩ = some (.slice a3 n3 c3) := G1.cell rfl; have x4 : w1.cell? ⟨w.heap.size, 4, none⟩ = some (.slice a4 n4 c4) := G1.cell rfl; clear G1 b1 y0))
    have z0 : w9.cell? ⟨w.heap.size + 1, 0, none⟩ = some (.int .i64 82) := NF.out.cell rfl
    have z1 : w9.cell? ⟨w.heap.size + 1, 1, none⟩ = some (.int .u8 0) := NF.out.cell rfl
    have z2 : w9.cell? ⟨w.heap.size + 1, 2, none⟩ = some (.int .i64 0) := NF.out.cell rfl
    have z3 : w9.cell? ⟨w.heap.size + 1, 3, none⟩ = some (.int .u8 0) := NF.out.cell rfl
    refine bodyPost_ret (v := .agg #[.int .i64 82, .int .u8 0, .int .i64 0, .int .u8 0]) (by simp [results, Tryz.results63, go_sem, z0, z1, z2, z3]) rfl ?_
    have p1 := BA.out.trans (B1.out.mono BA.out.size)
    exact ⟨by rw [HD.out, if_pos (by simp)]; rfl, p1.trans (UF.out.below (Nat.le_succ _) p1.size)⟩
  · skip
    by_cases k0 : n1 = 0
    · have i0 : (n1 : Int) = 0 := by omega
      have j0 : ((n1 : Int) == 0) = true := by simpa using i0
      have K0 := hiddenG k0
      clear i0 k0
      go_enter Tryz.func63, Tryz.ntmps63
      go_upto_region 1 with fail
      generalize (w.alloc (.cells #[.string (str g.name), .slice a1 n1 c1, .slice a2 n2 c2, .slice a3 n3 c3, .slice a4 n4 c4] 26)).alloc (.cells #[.int .i64 0, .int .u8 0, .int .i64 0, .int .u8 0] 104) = W0 at *
      go_wp2_with (first | (refine wpList_storeF _ rfl (.tmp 2) (.tmp 14) rfl rfl (w.heap.size + 1) _ _ _ _ _ _ _ _ rfl rfl N1.out ?_; intro w9 hNF hUF; have NF := hiddenG hNF; have UF := hiddenG hUF; clear hNF hUF) | (go_at_call 83; (with_reducible refine (NM.out W0).mono ?_); rintro e w1 ⟨rfl, b1⟩; have G1 := HG.out.below b1; have N1 := hiddenG (NR.out.below b1); have B1 := hiddenG b1; have x1 : w1.cell? ⟨w.heap.size, 1, none⟩ = some (.slice a1 n1 c1) := G1.cell rfl; have x2 : w1.cell? ⟨w.heap.size, 2, none⟩ = some (.slice a2 n2 c2) := G1.cell rfl; have x3 : w1.cell? ⟨w.heap.size, 3, none⟩ = some (.slice a3 n3 c3) := G1.cell rfl; have x4 : w1.cell? ⟨w.heap.size, 4, none⟩ = some (.slice a4 n4 c4) := G1.cell rfl; clear G1 b1 y0))
      have z0 : w9.cell? ⟨w.heap.size + 1, 0, none⟩ = some (.int .i64 80) := NF.out.cell rfl
      have z1 : w9.cell? ⟨w.heap.size + 1, 1, none⟩ = some (.int .u8 0) := NF.out.cell rfl
      have z2 : w9.cell? ⟨w.heap.size + 1, 2, none⟩ = some (.int .i64 0) := NF.out.cell rfl
      have z3 : w9.cell? ⟨w.heap.size + 1, 3, none⟩ = some (.int .u8 0) := NF.out.cell rfl
      refine bodyPost_ret (v := .agg #[.int .i64 80, .int .u8 0, .int .i64 0, .int .u8 0]) (by simp [results, Tryz.results63, go_sem, z0, z1, z2, z3]) rfl ?_
      have p1 := BA.out.trans (B1.out.mono BA.out.size)
      exact ⟨by rw [HD.out, if_neg (by simp), if_pos K0.out]; rfl, p1.trans (UF.out.below (Nat.le_succ _) p1.size)⟩
    · have i0 : ¬ (n1 : Int) = 0 := by omega
      have j0 : ((n1 : Int) == 0) = false := by simpa using i0
      by_cases k1 : 32 < n1
      · have i1 : (32 : Int) < (n1 : Int) := by omega
        go_enter Tryz.func63, Tryz.ntmps63
        go_upto_region 1 with fail
        generalize (w.alloc (.cells #[.string (str g.name), .slice a1 n1 c1, .slice a2 n2 c2, .slice a3 n3 c3, .slice a4 n4 c4] 26)).alloc (.cells #[.int .i64 0, .int .u8 0, .int .i64 0, .int .u8 0] 104) = W0 at *
        go_wp2_with (first | (refine wpList_storeF _ rfl (.tmp 2) (.tmp 20) rfl rfl (w.heap.size + 1) _ _ _ _ _ _ _ _ rfl rfl N2.out ?_; intro w9 hNF hUF; have NF := hiddenG hNF; have UF := hiddenG hUF; clear hNF hUF) | (go_at_call 83; (with_reducible refine (NM.out W0).mono ?_); rintro e w1 ⟨rfl, b1⟩; have G1 := HG.out.below b1; have N1 := hiddenG (NR.out.below b1); have B1 := hiddenG b1; have x1 : w1.cell? ⟨w.heap.size, 1, none⟩ = some (.slice a1 n1 c1) := G1.cell rfl; have x2 : w1.cell? ⟨w.heap.size, 2, none⟩ = some (.slice a2 n2 c2) := G1.cell rfl; have x3 : w1.cell? ⟨w.heap.size, 3, none⟩ = some (.slice a3 n3 c3) := G1.cell rfl; have x4 : w1.cell? ⟨w.heap.size, 4, none⟩ = some (.slice a4 n4 c4) := G1.cell rfl; clear G1 b1 y0) | (go_at_call 84; (with_reducible refine (surplus_any 1 32 w1).mono ?_); rintro e w2 ⟨rfl, b2⟩; have B2 := hiddenG b2; have N2 := hiddenG (N1.out.below b2); clear b2))
        have z0 : w9.cell? ⟨w.heap.size + 1, 0, none⟩ = some (.int .i64 81) := NF.out.cell rfl
        have z1 : w9.cell? ⟨w.heap.size + 1, 1, none⟩ = some (.int .u8 1) := NF.out.cell rfl
        have z2 : w9.cell? ⟨w.heap.size + 1, 2, none⟩ = some (.int .i64 32) := NF.out.cell rfl
        have z3 : w9.cell? ⟨w.heap.size + 1, 3, none⟩ = some (.int .u8 0) := NF.out.cell rfl
        refine bodyPost_ret (v := .agg #[.int .i64 81, .int .u8 1, .int .i64 32, .int .u8 0]) (by simp [results, Tryz.results63, go_sem, z0, z1, z2, z3]) rfl ?_
        have p1 := BA.out.trans (B1.out.mono BA.out.size)
        have p2 := p1.trans (B2.out.mono p1.size)
        exact ⟨by rw [HD.out, if_neg (by simp), if_neg k0, if_pos k1]; rfl, p2.trans (UF.out.below (Nat.le_succ _) p2.size)⟩
      · have i1 : ¬ (32 : Int) < (n1 : Int) := by omega
        by_cases k2 : 96 < n2
        · have i2 : (96 : Int) < (n2 : Int) := by omega
          go_enter Tryz.func63, Tryz.ntmps63
          go_upto_region 1 with fail
          generalize (w.alloc (.cells #[.string (str g.name), .slice a1 n1 c1, .slice a2 n2 c2, .slice a3 n3 c3, .slice a4 n4 c4] 26)).alloc (.cells #[.int .i64 0, .int .u8 0, .int .i64 0, .int .u8 0] 104) = W0 at *
          go_wp2_with (first | (refine wpList_storeF _ rfl (.tmp 2) (.tmp 26) rfl rfl (w.heap.size + 1) _ _ _ _ _ _ _ _ rfl rfl N2.out ?_; intro w9 hNF hUF; have NF := hiddenG hNF; have UF := hiddenG hUF; clear hNF hUF) | (go_at_call 83; (with_reducible refine (NM.out W0).mono ?_); rintro e w1 ⟨rfl, b1⟩; have G1 := HG.out.below b1; have N1 := hiddenG (NR.out.below b1); have B1 := hiddenG b1; have x1 : w1.cell? ⟨w.heap.size, 1, none⟩ = some (.slice a1 n1 c1) := G1.cell rfl; have x2 : w1.cell? ⟨w.heap.size, 2, none⟩ = some (.slice a2 n2 c2) := G1.cell rfl; have x3 : w1.cell? ⟨w.heap.size, 3, none⟩ = some (.slice a3 n3 c3) := G1.cell rfl; have x4 : w1.cell? ⟨w.heap.size, 4, none⟩ = some (.slice a4 n4 c4) := G1.cell rfl; clear G1 b1 y0) | (go_at_call 84; (with_reducible refine (surplus_any 2 96 w1).mono ?_); rintro e w2 ⟨rfl, b2⟩; have B2 := hiddenG b2; have N2 := hiddenG (N1.out.below b2); clear b2))
          have z0 : w9.cell? ⟨w.heap.size + 1, 0, none⟩ = some (.int .i64 81) := NF.out.cell rfl
          have z1 : w9.cell? ⟨w.heap.size + 1, 1, none⟩ = some (.int .u8 2) := NF.out.cell rfl
          have z2 : w9.cell? ⟨w.heap.size + 1, 2, none⟩ = some (.int .i64 96) := NF.out.cell rfl
          have z3 : w9.cell? ⟨w.heap.size + 1, 3, none⟩ = some (.int .u8 0) := NF.out.cell rfl
          refine bodyPost_ret (v := .agg #[.int .i64 81, .int .u8 2, .int .i64 96, .int .u8 0]) (by simp [results, Tryz.results63, go_sem, z0, z1, z2, z3]) rfl ?_
          have p1 := BA.out.trans (B1.out.mono BA.out.size)
          have p2 := p1.trans (B2.out.mono p1.size)
          exact ⟨by rw [HD.out, if_neg (by simp), if_neg k0, if_neg k1, if_pos k2]; rfl, p2.trans (UF.out.below (Nat.le_succ _) p2.size)⟩
        · have i2 : ¬ (96 : Int) < (n2 : Int) := by omega
          by_cases k3 : 16 < n3
          · have i3 : (16 : Int) < (n3 : Int) := by omega
            go_enter Tryz.func63, Tryz.ntmps63
            go_upto_region 1 with fail
            generalize (w.alloc (.cells #[.string (str g.name), .slice a1 n1 c1, .slice a2 n2 c2, .slice a3 n3 c3, .slice a4 n4 c4] 26)).alloc (.cells #[.int .i64 0, .int .u8 0, .int .i64 0, .int .u8 0] 104) = W0 at *
            go_wp2_with (first | (refine wpList_storeF _ rfl (.tmp 2) (.tmp 32) rfl rfl (w.heap.size + 1) _ _ _ _ _ _ _ _ rfl rfl N2.out ?_; intro w9 hNF hUF; have NF := hiddenG hNF; have UF := hiddenG hUF; clear hNF hUF) | (go_at_call 83; (with_reducible refine (NM.out W0).mono ?_); rintro e w1 ⟨rfl, b1⟩; have G1 := HG.out.below b1; have N1 := hiddenG (NR.out.below b1); have B1 := hiddenG b1; have x1 : w1.cell? ⟨w.heap.size, 1, none⟩ = some (.slice a1 n1 c1) := G1.cell rfl; have x2 : w1.cell? ⟨w.heap.size, 2, none⟩ = some (.slice a2 n2 c2) := G1.cell rfl; have x3 : w1.cell? ⟨w.heap.size, 3, none⟩ = some (.slice a3 n3 c3) := G1.cell rfl; have x4 : w1.cell? ⟨w.heap.size, 4, none⟩ = some (.slice a4 n4 c4) := G1.cell rfl; clear G1 b1 y0) | (go_at_call 84; (with_reducible refine (surplus_any 3 16 w1).mono ?_); rintro e w2 ⟨rfl, b2⟩; have B2 := hiddenG b2; have N2 := hiddenG (N1.out.below b2); clear b2))
            have z0 : w9.cell? ⟨w.heap.size + 1, 0, none⟩ = some (.int .i64 81) := NF.out.cell rfl
            have z1 : w9.cell? ⟨w.heap.size + 1, 1, none⟩ = some (.int .u8 3) := NF.out.cell rfl
            have z2 : w9.cell? ⟨w.heap.size + 1, 2, none⟩ = some (.int .i64 16) := NF.out.cell rfl
            have z3 : w9.cell? ⟨w.heap.size + 1, 3, none⟩ = some (.int .u8 0) := NF.out.cell rfl
            refine bodyPost_ret (v := .agg #[.int .i64 81, .int .u8 3, .int .i64 16, .int .u8 0]) (by simp [results, Tryz.results63, go_sem, z0, z1, z2, z3]) rfl ?_
            have p1 := BA.out.trans (B1.out.mono BA.out.size)
            have p2 := p1.trans (B2.out.mono p1.size)
            exact ⟨by rw [HD.out, if_neg (by simp), if_neg k0, if_neg k1, if_neg k2, if_pos k3]; rfl, p2.trans (UF.out.below (Nat.le_succ _) p2.size)⟩
          · have i3 : ¬ (16 : Int) < (n3 : Int) := by omega
            by_cases k4 : 16 < n4
            · have i4 : (16 : Int) < (n4 : Int) := by omega
              go_enter Tryz.func63, Tryz.ntmps63
              go_upto_region 1 with fail
              generalize (w.alloc (.cells #[.string (str g.name), .slice a1 n1 c1, .slice a2 n2 c2, .slice a3 n3 c3, .slice a4 n4 c4] 26)).alloc (.cells #[.int .i64 0, .int .u8 0, .int .i64 0, .int .u8 0] 104) = W0 at *
              go_wp2_with (first | (refine wpList_storeF _ rfl (.tmp 2) (.tmp 38) rfl rfl (w.heap.size + 1) _ _ _ _ _ _ _ _ rfl rfl N2.out ?_; intro w9 hNF hUF; have NF := hiddenG hNF; have UF := hiddenG hUF; clear hNF hUF) | (go_at_call 83; (with_reducible refine (NM.out W0).mono ?_); rintro e w1 ⟨rfl, b1⟩; have G1 := HG.out.below b1; have N1 := hiddenG (NR.out.below b1); have B1 := hiddenG b1; have x1 : w1.cell? ⟨w.heap.size, 1, none⟩ = some (.slice a1 n1 c1) := G1.cell rfl; have x2 : w1.cell? ⟨w.heap.size, 2, none⟩ = some (.slice a2 n2 c2) := G1.cell rfl; have x3 : w1.cell? ⟨w.heap.size, 3, none⟩ = some (.slice a3 n3 c3) := G1.cell rfl; have x4 : w1.cell? ⟨w.heap.size, 4, none⟩ = some (.slice a4 n4 c4) := G1.cell rfl; clear G1 b1 y0) | (go_at_call 84; (with_reducible refine (surplus_any 4 16 w1).mono ?_); rintro e w2 ⟨rfl, b2⟩; have B2 := hiddenG b2; have N2 := hiddenG (N1.out.below b2); clear b2))
              have z0 : w9.cell? ⟨w.heap.size + 1, 0, none⟩ = some (.int .i64 81) := NF.out.cell rfl
              have z1 : w9.cell? ⟨w.heap.size + 1, 1, none⟩ = some (.int .u8 4) := NF.out.cell rfl
              have z2 : w9.cell? ⟨w.heap.size + 1, 2, none⟩ = some (.int .i64 16) := NF.out.cell rfl
              have z3 : w9.cell? ⟨w.heap.size + 1, 3, none⟩ = some (.int .u8 0) := NF.out.cell rfl
              refine bodyPost_ret (v := .agg #[.int .i64 81, .int .u8 4, .int .i64 16, .int .u8 0]) (by simp [results, Tryz.results63, go_sem, z0, z1, z2, z3]) rfl ?_
              have p1 := BA.out.trans (B1.out.mono BA.out.size)
              have p2 := p1.trans (B2.out.mono p1.size)
              exact ⟨by rw [HD.out, if_neg (by simp), if_neg k0, if_neg k1, if_neg k2, if_neg k3, if_pos k4]; rfl, p2.trans (UF.out.below (Nat.le_succ _) p2.size)⟩
            · have i4 : ¬ (16 : Int) < (n4 : Int) := by omega
              go_enter Tryz.func63, Tryz.ntmps63
              go_upto_region 1 with fail
              generalize (w.alloc (.cells #[.string (str g.name), .slice a1 n1 c1, .slice a2 n2 c2, .slice a3 n3 c3, .slice a4 n4 c4] 26)).alloc (.cells #[.int .i64 0, .int .u8 0, .int .i64 0, .int .u8 0] 104) = W0 at *
              go_wp2_with (first | (refine wpList_storeF _ rfl (.tmp 2) (.tmp 39) rfl rfl (w.heap.size + 1) _ _ _ _ _ _ _ _ rfl rfl N1.out ?_; intro w9 hNF hUF; have NF := hiddenG hNF; have UF := hiddenG hUF; clear hNF hUF) | (go_at_call 83; (with_reducible refine (NM.out W0).mono ?_); rintro e w1 ⟨rfl, b1⟩; have G1 := HG.out.below b1; have N1 := hiddenG (NR.out.below b1); have B1 := hiddenG b1; have x1 : w1.cell? ⟨w.heap.size, 1, none⟩ = some (.slice a1 n1 c1) := G1.cell rfl; have x2 : w1.cell? ⟨w.heap.size, 2, none⟩ = some (.slice a2 n2 c2) := G1.cell rfl; have x3 : w1.cell? ⟨w.heap.size, 3, none⟩ = some (.slice a3 n3 c3) := G1.cell rfl; have x4 : w1.cell? ⟨w.heap.size, 4, none⟩ = some (.slice a4 n4 c4) := G1.cell rfl; clear G1 b1 y0))
              have z0 : w9.cell? ⟨w.heap.size + 1, 0, none⟩ = some (.int .i64 0) := NF.out.cell rfl
              have z1 : w9.cell? ⟨w.heap.size + 1, 1, none⟩ = some (.int .u8 0) := NF.out.cell rfl
              have z2 : w9.cell? ⟨w.heap.size + 1, 2, none⟩ = some (.int .i64 0) := NF.out.cell rfl
              have z3 : w9.cell? ⟨w.heap.size + 1, 3, none⟩ = some (.int .u8 0) := NF.out.cell rfl
              refine bodyPost_ret (v := .agg #[.int .i64 0, .int .u8 0, .int .i64 0, .int .u8 0]) (by simp [results, Tryz.results63, go_sem, z0, z1, z2, z3]) rfl ?_
              have p1 := BA.out.trans (B1.out.mono BA.out.size)
              exact ⟨by rw [HD.out, if_neg (by simp), if_neg k0, if_neg k1, if_neg k2, if_neg k3, if_neg k4]; rfl, p1.trans (UF.out.below (Nat.le_succ _) p1.size)⟩
def RowsLow (R : List (List Bool)) : Prop := ∀ j, (nthB R j).length ≤ 1024
theorem rows_app {R : List (List Bool)} {n : Nat} (h : RowsLow R) (hn : n ≤ 1024) : RowsLow (R ++ [List.replicate n false]) := fun j => by
  by_cases h1 : j < R.length
  · rw [nthB_left h1]; exact h j
  · by_cases h2 : j = R.length
    · subst h2; rw [nthB_end, List.length_replicate]; exact hn
    · unfold nthB
      rw [List.getD_eq_getElem?_getD, List.getElem?_eq_none (by simp; omega)]
      exact Nat.zero_le _
theorem open_good {s : LS} {t : Nat} {zs : List Int} (h : (openS s t zs).1 = 0) (hI : RowsLow s.I) (hO : RowsLow s.O) : (openS s t zs).2.ns = s.ns ∧ (openS s t zs).2.I.length = s.I.length + 1 ∧ (openS s t zs).2.O.length = s.O.length + 1 ∧ RowsLow (openS s t zs).2.I ∧ RowsLow (openS s t zs).2.O := by
  have hs := of_small t zs
  unfold openS at h ⊢
  by_cases h0 : (ofS t zs).2.2 = 0
  · rw [if_pos h0]
    exact ⟨rfl, by simp, by simp, rows_app hI hs.1, rows_app hO hs.2⟩
  · rw [if_neg h0] at h
    exact absurd h h0
theorem actors_good : ∀ (As : List GA) (i : Nat) (s : LS), RowsLow s.I → RowsLow s.O → (actorsF As i s).1.code = 0 → (actorsF As i s).2.I.length = s.I.length + As.length ∧ (actorsF As i s).2.O.length = s.O.length + As.length ∧ RowsLow (actorsF As i s).2.I ∧ RowsLow (actorsF As i s).2.O ∧ (actorsF As i s).2.ns.length ≤ s.ns.length + As.length
  | [], i, s, hI, hO, _ => ⟨rfl, rfl, hI, hO, Nat.le_refl _⟩
  | a :: r, i, s, hI, hO, h => by
    have e : actorsF (a :: r) i s = if (enterS s.ns a.name).1 = 0 then (if (openS ⟨(enterS s.ns a.name).2, s.I, s.O⟩ a.tag a.params).1 = 0 then actorsF r (i + 1) (openS ⟨(enterS s.ns a.name).2, s.I, s.O⟩ a.tag a.params).2 else (⟨(openS ⟨(enterS s.ns a.name).2, s.I, s.O⟩ a.tag a.params).1, 1, i, 0⟩, s)) else (⟨(enterS s.ns a.name).1, 1, i, 0⟩, s) := rfl
    rw [e] at h ⊢
    by_cases h1 : (enterS s.ns a.name).1 = 0
    · rw [if_pos h1] at h ⊢
      by_cases h2 : (openS ⟨(enterS s.ns a.name).2, s.I, s.O⟩ a.tag a.params).1 = 0
      · rw [if_pos h2] at h ⊢
        have g := open_good (s := ⟨(enterS s.ns a.name).2, s.I, s.O⟩) h2 hI hO
        have q := actors_good r (i + 1) _ g.2.2.2.1 g.2.2.2.2 h
        have l := enter_len s.ns a.name
        have g1 : (openS ⟨(enterS s.ns a.name).2, s.I, s.O⟩ a.tag a.params).2.ns = (enterS s.ns a.name).2 := g.1
        have g2 : (openS ⟨(enterS s.ns a.name).2, s.I, s.O⟩ a.tag a.params).2.I.length = s.I.length + 1 := g.2.1
        have g3 : (openS ⟨(enterS s.ns a.name).2, s.I, s.O⟩ a.tag a.params).2.O.length = s.O.length + 1 := g.2.2.1
        rw [g1, g2, g3] at q
        rw [List.length_cons]
        exact ⟨by omega, by omega, q.2.2.1, q.2.2.2.1, by omega⟩
      · rw [if_neg h2] at h
        exact absurd h h2
    · rw [if_neg h1] at h
      exact absurd h h1
theorem take_len (R : List (List Bool)) (a p : Int) : (takeR R a p).length = R.length := by
  unfold takeR; split
  · exact setB_len _ _ _
  · rfl
theorem edges_good : ∀ (Es : List GE) (i : Nat) (s : LS), SmallR s.I → SmallR s.O → (edgesF Es i s).2.I.length = s.I.length ∧ (edgesF Es i s).2.O.length = s.O.length ∧ SmallR (edgesF Es i s).2.I ∧ SmallR (edgesF Es i s).2.O ∧ (edgesF Es i s).2.ns = s.ns
  | [], i, s, hI, hO => ⟨rfl, rfl, hI, hO, rfl⟩
  | e :: r, i, s, hI, hO => by
    have u : edgesF (e :: r) i s = if takeC s.O e.f e.fp = 0 then (if takeC s.I e.t e.tp = 0 then (if 256 < e.start.length then (⟨88, 2, i, 0⟩, s) else edgesF r (i + 1) ⟨s.ns, takeR s.I e.t e.tp, takeR s.O e.f e.fp⟩) else (⟨takeC s.I e.t e.tp, 2, i, 2⟩, s)) else (⟨takeC s.O e.f e.fp, 2, i, 1⟩, s) := rfl
    rw [u]
    by_cases h1 : takeC s.O e.f e.fp = 0
    · rw [if_pos h1]
      by_cases h2 : takeC s.I e.t e.tp = 0
      · rw [if_pos h2]
        by_cases h3 : 256 < e.start.length
        · rw [if_pos h3]; exact ⟨rfl, rfl, hI, hO, rfl⟩
        · rw [if_neg h3]
          have q := edges_good r (i + 1) ⟨s.ns, takeR s.I e.t e.tp, takeR s.O e.f e.fp⟩ (small_take hI _ _) (small_take hO _ _)
          exact ⟨q.1.trans (take_len _ _ _), q.2.1.trans (take_len _ _ _), q.2.2.1, q.2.2.2.1, q.2.2.2.2⟩
      · rw [if_neg h2]; exact ⟨rfl, rfl, hI, hO, rfl⟩
    · rw [if_neg h1]; exact ⟨rfl, rfl, hI, hO, rfl⟩
theorem ins_good : ∀ (Ps : List GP) (i : Nat) (s : LS), SmallR s.I → SmallR s.O → (insF Ps i s).2.I.length = s.I.length ∧ (insF Ps i s).2.O.length = s.O.length ∧ SmallR (insF Ps i s).2.I ∧ SmallR (insF Ps i s).2.O ∧ (insF Ps i s).2.ns.length ≤ s.ns.length + Ps.length
  | [], i, s, hI, hO => ⟨rfl, rfl, hI, hO, Nat.le_refl _⟩
  | p :: r, i, s, hI, hO => by
    have u : insF (p :: r) i s = if (enterS s.ns p.name).1 = 0 then (if takeC s.I p.actor p.port = 0 then insF r (i + 1) ⟨(enterS s.ns p.name).2, takeR s.I p.actor p.port, s.O⟩ else (⟨takeC s.I p.actor p.port, 3, i, 2⟩, s)) else (⟨(enterS s.ns p.name).1, 3, i, 0⟩, s) := rfl
    rw [u]
    by_cases h1 : (enterS s.ns p.name).1 = 0
    · rw [if_pos h1]
      by_cases h2 : takeC s.I p.actor p.port = 0
      · rw [if_pos h2]
        have q := ins_good r (i + 1) ⟨(enterS s.ns p.name).2, takeR s.I p.actor p.port, s.O⟩ (small_take hI _ _) hO
        have l := enter_len s.ns p.name
        have q5 : (insF r (i + 1) ⟨(enterS s.ns p.name).2, takeR s.I p.actor p.port, s.O⟩).2.ns.length ≤ (enterS s.ns p.name).2.length + r.length := q.2.2.2.2
        exact ⟨q.1.trans (take_len _ _ _), q.2.1, q.2.2.1, q.2.2.2.1, by rw [List.length_cons]; omega⟩
      · rw [if_neg h2]; exact ⟨rfl, rfl, hI, hO, Nat.le_add_right _ _⟩
    · rw [if_neg h1]; exact ⟨rfl, rfl, hI, hO, Nat.le_add_right _ _⟩
theorem outs_good : ∀ (Ps : List GP) (i : Nat) (s : LS), SmallR s.I → SmallR s.O → (outsF Ps i s).2.I.length = s.I.length ∧ (outsF Ps i s).2.O.length = s.O.length ∧ SmallR (outsF Ps i s).2.I ∧ SmallR (outsF Ps i s).2.O
  | [], i, s, hI, hO => ⟨rfl, rfl, hI, hO⟩
  | p :: r, i, s, hI, hO => by
    have u : outsF (p :: r) i s = if (enterS s.ns p.name).1 = 0 then (if takeC s.O p.actor p.port = 0 then outsF r (i + 1) ⟨(enterS s.ns p.name).2, s.I, takeR s.O p.actor p.port⟩ else (⟨takeC s.O p.actor p.port, 4, i, 1⟩, s)) else (⟨(enterS s.ns p.name).1, 4, i, 0⟩, s) := rfl
    rw [u]
    by_cases h1 : (enterS s.ns p.name).1 = 0
    · rw [if_pos h1]
      by_cases h2 : takeC s.O p.actor p.port = 0
      · rw [if_pos h2]
        have q := outs_good r (i + 1) ⟨(enterS s.ns p.name).2, s.I, takeR s.O p.actor p.port⟩ hI (small_take hO _ _)
        exact ⟨q.1, q.2.1.trans (take_len _ _ _), q.2.2.1, q.2.2.2⟩
      · rw [if_neg h2]; exact ⟨rfl, rfl, hI, hO⟩
    · rw [if_neg h1]; exact ⟨rfl, rfl, hI, hO⟩
def insN (g : GG) (i : Nat) : Nat := (ofS (nthA g.actors i).tag (nthA g.actors i).params).1.length
def outsN (g : GG) (i : Nat) : Nat := (ofS (nthA g.actors i).tag (nthA g.actors i).params).2.1.length
def namedB (g : GG) (na ni no : Nat) (x : List UInt8) : Bool := (g.actors.take na).any (fun a => a.name == x) || ((g.ins.take ni).any (fun p => p.name == x) || (g.outs.take no).any (fun p => p.name == x))
def outTk (g : GG) (ne no : Nat) (a p : Int) : Bool := (g.edges.take ne).any (fun e => e.f == a && e.fp == p) || (g.outs.take no).any (fun q => q.actor == a && q.port == p)
def inTk (g : GG) (ne ni : Nat) (a p : Int) : Bool := (g.edges.take ne).any (fun e => e.t == a && e.tp == p) || (g.ins.take ni).any (fun q => q.actor == a && q.port == p)
def endC (g : GG) (a p : Int) (n : Nat) (taken : Bool) : Int := if a < 0 ∨ (g.actors.length : Int) ≤ a then 84 else if p < 0 ∨ (n : Int) ≤ p then 85 else if taken = true then 86 else 0
def actorC (g : GG) (i : Nat) : Int := if nameB (nthA g.actors i).name = false then 82 else if namedB g i 0 0 (nthA g.actors i).name = true then 83 else (ofS (nthA g.actors i).tag (nthA g.actors i).params).2.2
def outEnd (g : GG) (ne no : Nat) (a p : Int) : Int := endC g a p (outsN g a.toNat) (outTk g ne no a p)
def inEnd (g : GG) (ne ni : Nat) (a p : Int) : Int := endC g a p (insN g a.toNat) (inTk g ne ni a p)
def edgeC (g : GG) (i : Nat) : Int × Nat :=
  if outEnd g i 0 (nthE g.edges i).f (nthE g.edges i).fp ≠ 0 then (outEnd g i 0 (nthE g.edges i).f (nthE g.edges i).fp, 1)
  else if inEnd g i 0 (nthE g.edges i).t (nthE g.edges i).tp ≠ 0 then (inEnd g i 0 (nthE g.edges i).t (nthE g.edges i).tp, 2)
  else if 256 < (nthE g.edges i).start.length then (88, 0) else (0, 0)
def inC (g : GG) (i : Nat) : Int × Nat := if nameB (nthP g.ins i).name = false then (82, 0) else if namedB g g.actors.length i 0 (nthP g.ins i).name = true then (83, 0) else (inEnd g g.edges.length i (nthP g.ins i).actor (nthP g.ins i).port, 2)
def outC (g : GG) (i : Nat) : Int × Nat := if nameB (nthP g.outs i).name = false then (82, 0) else if namedB g g.actors.length g.ins.length i (nthP g.outs i).name = true then (83, 0) else (outEnd g g.edges.length i (nthP g.outs i).actor (nthP g.outs i).port, 1)
def openB (g : GG) (i : Nat) : Bool := (List.range (insN g i)).any (fun p => !inTk g g.edges.length g.ins.length (i : Int) (p : Int)) || (List.range (outsN g i)).any (fun p => !outTk g g.edges.length g.outs.length (i : Int) (p : Int))
def openC (g : GG) (i : Nat) : Int × Nat := (if openB g i = true then 87 else 0, 0)
/-- The first of n, from the number i on, with which something is wrong. -/
def loopC : Nat → Nat → (Nat → Int × Nat) → Nat → FL
  | 0, _, _, _ => fl0
  | n + 1, i, f, k => if (f i).1 ≠ 0 then ⟨(f i).1, k, i, (f i).2⟩ else loopC n (i + 1) f k
def findS (g : GG) : FL :=
  if (headF g).code ≠ 0 then headF g else
  if (loopC g.actors.length 0 (fun i => (actorC g i, 0)) 1).code ≠ 0 then loopC g.actors.length 0 (fun i => (actorC g i, 0)) 1 else
  if (loopC g.edges.length 0 (edgeC g) 2).code ≠ 0 then loopC g.edges.length 0 (edgeC g) 2 else
  if (loopC g.ins.length 0 (inC g) 3).code ≠ 0 then loopC g.ins.length 0 (inC g) 3 else
  if (loopC g.outs.length 0 (outC g) 4).code ≠ 0 then loopC g.outs.length 0 (outC g) 4 else
  loopC g.actors.length 0 (openC g) 1
/-- What a ledger means: so many actors, edges, inputs, outputs have been gone through. -/
structure Means (g : GG) (s : LS) (na ne ni no : Nat) : Prop where
  ns : ∀ x, (0 < s.ns.count x) = (namedB g na ni no x = true)
  lI : s.I.length = na
  lO : s.O.length = na
  rI : ∀ a, a < na → (nthB s.I a).length = insN g a
  rO : ∀ a, a < na → (nthB s.O a).length = outsN g a
  bI : ∀ a p : Nat, a < na → p < insN g a → bitB s.I a p = inTk g ne ni (a : Int) (p : Int)
  bO : ∀ a p : Nat, a < na → p < outsN g a → bitB s.O a p = outTk g ne no (a : Int) (p : Int)
theorem means_start (g : GG) : Means g ⟨[], [], []⟩ 0 0 0 0 :=
  ⟨fun x => by simp [namedB], rfl, rfl, fun a h => absurd h (Nat.not_lt_zero _), fun a h => absurd h (Nat.not_lt_zero _), fun a p h => absurd h (Nat.not_lt_zero _), fun a p h => absurd h (Nat.not_lt_zero _)⟩
theorem take_A {As : List GA} {i : Nat} (h : i < As.length) : As.take (i + 1) = As.take i ++ [nthA As i] := by
  rw [List.take_add_one, List.getElem?_eq_getElem h]; unfold nthA; rw [List.getD_eq_getElem?_getD, List.getElem?_eq_getElem h]; rfl
theorem take_E {As : List GE} {i : Nat} (h : i < As.length) : As.take (i + 1) = As.take i ++ [nthE As i] := by
  rw [List.take_add_one, List.getElem?_eq_getElem h]; unfold nthE; rw [List.getD_eq_getElem?_getD, List.getElem?_eq_getElem h]; rfl
theorem take_P {As : List GP} {i : Nat} (h : i < As.length) : As.take (i + 1) = As.take i ++ [nthP As i] := by
  rw [List.take_add_one, List.getElem?_eq_getElem h]; unfold nthP; rw [List.getD_eq_getElem?_getD, List.getElem?_eq_getElem h]; rfl
theorem named_A {g : GG} {i ni no : Nat} (h : i < g.actors.length) (x : List UInt8) : (namedB g (i + 1) ni no x = true) = (namedB g i ni no x = true ∨ (nthA g.actors i).name = x) := by
  unfold namedB
  rw [take_A h, List.any_append]
  simp only [List.any_cons, List.any_nil, Bool.or_false, Bool.or_eq_true, beq_iff_eq, eq_iff_iff]
  constructor
  · rintro ((h | h) | h)
    · exact .inl (.inl h)
    · exact .inr h
    · exact .inl (.inr h)
  · rintro ((h | h) | h)
    · exact .inl (.inl h)
    · exact .inr h
    · exact .inl (.inr h)
theorem named_I {g : GG} {i na no : Nat} (h : i < g.ins.length) (x : List UInt8) : (namedB g na (i + 1) no x = true) = (namedB g na i no x = true ∨ (nthP g.ins i).name = x) := by
  unfold namedB
  rw [take_P h, List.any_append]
  simp only [List.any_cons, List.any_nil, Bool.or_false, Bool.or_eq_true, beq_iff_eq, eq_iff_iff]
  constructor
  · rintro (h | ((h | h) | h))
    · exact .inl (.inl h)
    · exact .inl (.inr (.inl h))
    · exact .inr h
    · exact .inl (.inr (.inr h))
  · rintro ((h | (h | h)) | h)
    · exact .inl h
    · exact .inr (.inl (.inl h))
    · exact .inr (.inr h)
    · exact .inr (.inl (.inr h))
theorem named_O {g : GG} {i na ni : Nat} (h : i < g.outs.length) (x : List UInt8) : (namedB g na ni (i + 1) x = true) = (namedB g na ni i x = true ∨ (nthP g.outs i).name = x) := by
  unfold namedB
  rw [take_P h, List.any_append]
  simp only [List.any_cons, List.any_nil, Bool.or_false, Bool.or_eq_true, beq_iff_eq, eq_iff_iff]
  constructor
  · rintro (h | (h | (h | h)))
    · exact .inl (.inl h)
    · exact .inl (.inr (.inl h))
    · exact .inl (.inr (.inr h))
    · exact .inr h
  · rintro ((h | (h | h)) | h)
    · exact .inl h
    · exact .inr (.inl h)
    · exact .inr (.inr (.inl h))
    · exact .inr (.inr (.inr h))
theorem outTk_E {g : GG} {i no : Nat} (h : i < g.edges.length) (a p : Int) : outTk g (i + 1) no a p = (outTk g i no a p || ((nthE g.edges i).f == a && (nthE g.edges i).fp == p)) := by
  unfold outTk
  rw [take_E h, List.any_append]
  simp only [List.any_cons, List.any_nil, Bool.or_false]
  generalize (g.edges.take i).any _ = x
  generalize (g.outs.take no).any _ = y
  generalize (_ && _) = z
  cases x <;> cases y <;> cases z <;> rfl
theorem inTk_E {g : GG} {i no : Nat} (h : i < g.edges.length) (a p : Int) : inTk g (i + 1) no a p = (inTk g i no a p || ((nthE g.edges i).t == a && (nthE g.edges i).tp == p)) := by
  unfold inTk
  rw [take_E h, List.any_append]
  simp only [List.any_cons, List.any_nil, Bool.or_false]
  generalize (g.edges.take i).any _ = x
  generalize (g.ins.take no).any _ = y
  generalize (_ && _) = z
  cases x <;> cases y <;> cases z <;> rfl
theorem outTk_P {g : GG} {i ne : Nat} (h : i < g.outs.length) (a p : Int) : outTk g ne (i + 1) a p = (outTk g ne i a p || ((nthP g.outs i).actor == a && (nthP g.outs i).port == p)) := by
  unfold outTk
  rw [take_P h, List.any_append]
  simp only [List.any_cons, List.any_nil, Bool.or_false, Bool.or_assoc]
theorem inTk_P {g : GG} {i ne : Nat} (h : i < g.ins.length) (a p : Int) : inTk g ne (i + 1) a p = (inTk g ne i a p || ((nthP g.ins i).actor == a && (nthP g.ins i).port == p)) := by
  unfold inTk
  rw [take_P h, List.any_append]
  simp only [List.any_cons, List.any_nil, Bool.or_false, Bool.or_assoc]
theorem bit_set {R : List (List Bool)} {a p : Nat} (ha : a < R.length) (hp : p < (nthB R a).length) (b q : Nat) : bitB (setB R a p) b q = (bitB R b q || (decide (a = b) && decide (p = q))) := by
  unfold bitB
  rw [nthB_set b ha]
  by_cases e : b = a
  · subst e
    rw [if_pos rfl, decide_eq_true rfl, Bool.true_and]
    by_cases e2 : q = p
    · subst e2
      rw [List.getD_eq_getElem?_getD, List.getElem?_set_self hp, decide_eq_true rfl, Bool.or_true]
      rfl
    · rw [List.getD_eq_getElem?_getD, List.getElem?_set_ne (Ne.symm e2), decide_eq_false (Ne.symm e2), Bool.or_false, List.getD_eq_getElem?_getD]
  · rw [if_neg e, decide_eq_false (Ne.symm e), Bool.false_and, Bool.or_false]
theorem set_rows {R : List (List Bool)} {a p : Nat} (ha : a < R.length) (b : Nat) : (nthB (setB R a p) b).length = (nthB R b).length := by
  rw [nthB_set b ha]
  by_cases e : b = a
  · subst e; rw [if_pos rfl, List.length_set]
  · rw [if_neg e]
theorem bit_new {R : List (List Bool)} {n b q : Nat} (hb : b < R.length + 1) : bitB (R ++ [List.replicate n false]) b q = if b < R.length then bitB R b q else false := by
  unfold bitB
  by_cases h : b < R.length
  · rw [if_pos h, nthB_left h]
  · rw [if_neg h, show b = R.length by omega, nthB_end, List.getD_eq_getElem?_getD]
    by_cases h2 : q < n
    · rw [List.getElem?_replicate, if_pos h2]; rfl
    · rw [List.getElem?_replicate, if_neg h2]; rfl
/-- No one has said so far that a port of a later actor is taken. -/
theorem tk_none (g : GG) (a p : Int) : inTk g 0 0 a p = false ∧ outTk g 0 0 a p = false := by
  unfold inTk outTk; simp
theorem actors_find (g : GG) : ∀ (n i : Nat) (s : LS), n + i = g.actors.length → Means g s i 0 0 0 →
    (actorsF (g.actors.drop i) i s).1 = loopC n i (fun i => (actorC g i, 0)) 1 ∧ ((actorsF (g.actors.drop i) i s).1.code = 0 → Means g (actorsF (g.actors.drop i) i s).2 g.actors.length 0 0 0)
  | 0, i, s, hn, hm => by
    have e : g.actors.drop i = [] := List.drop_eq_nil_of_le (by omega)
    rw [e]
    have e2 : i = g.actors.length := by omega
    subst e2
    exact ⟨rfl, fun _ => hm⟩
  | n + 1, i, s, hn, hm => by
    have hi : i < g.actors.length := by omega
    rw [drop_A hi]
    have e : actorsF (nthA g.actors i :: g.actors.drop (i + 1)) i s = if (enterS s.ns (nthA g.actors i).name).1 = 0 then (if (openS ⟨(enterS s.ns (nthA g.actors i).name).2, s.I, s.O⟩ (nthA g.actors i).tag (nthA g.actors i).params).1 = 0 then actorsF (g.actors.drop (i + 1)) (i + 1) (openS ⟨(enterS s.ns (nthA g.actors i).name).2, s.I, s.O⟩ (nthA g.actors i).tag (nthA g.actors i).params).2 else (⟨(openS ⟨(enterS s.ns (nthA g.actors i).name).2, s.I, s.O⟩ (nthA g.actors i).tag (nthA g.actors i).params).1, 1, i, 0⟩, s)) else (⟨(enterS s.ns (nthA g.actors i).name).1, 1, i, 0⟩, s) := rfl
    have l : loopC (n + 1) i (fun i => (actorC g i, 0)) 1 = if actorC g i ≠ 0 then ⟨actorC g i, 1, i, 0⟩ else loopC n (i + 1) (fun i => (actorC g i, 0)) 1 := rfl
    have ht : (ofS (nthA g.actors i).tag (nthA g.actors i).params).1.length = insN g i := rfl
    have ht2 : (ofS (nthA g.actors i).tag (nthA g.actors i).params).2.1.length = outsN g i := rfl
    rw [e, l]
    by_cases h1 : nameB (nthA g.actors i).name = true
    · have hns := hm.ns (nthA g.actors i).name
      by_cases h2 : 0 < s.ns.count (nthA g.actors i).name
      · have h3 : namedB g i 0 0 (nthA g.actors i).name = true := by rw [← hns]; exact h2
        have ae : enterS s.ns (nthA g.actors i).name = (83, (nthA g.actors i).name :: s.ns) := by unfold enterS; rw [if_pos h1, if_pos h2]
        have ac : actorC g i = 83 := by unfold actorC; rw [if_neg (by rw [h1]; decide), if_pos h3]
        rw [ae, ac]
        exact ⟨rfl, fun h => absurd h (by show ¬ (83 : Int) = 0; decide)⟩
      · have h3 : ¬ namedB g i 0 0 (nthA g.actors i).name = true := by rw [← hns]; exact h2
        have ae : enterS s.ns (nthA g.actors i).name = (0, (nthA g.actors i).name :: s.ns) := by unfold enterS; rw [if_pos h1, if_neg h2]
        have ac : actorC g i = (ofS (nthA g.actors i).tag (nthA g.actors i).params).2.2 := by unfold actorC; rw [if_neg (by rw [h1]; decide), if_neg h3]
        rw [ae, ac, if_pos rfl]
        by_cases h4 : (ofS (nthA g.actors i).tag (nthA g.actors i).params).2.2 = 0
        · have ao : openS ⟨(nthA g.actors i).name :: s.ns, s.I, s.O⟩ (nthA g.actors i).tag (nthA g.actors i).params = (0, ⟨(nthA g.actors i).name :: s.ns, s.I ++ [List.replicate (insN g i) false], s.O ++ [List.replicate (outsN g i) false]⟩) := by unfold openS; rw [if_pos h4]; rfl
          rw [ao, if_pos rfl, h4, if_neg (by decide)]
          refine actors_find g n (i + 1) _ (by omega) ⟨fun x => ?_, ?_, ?_, fun a ha => ?_, fun a ha => ?_, fun a p ha hp => ?_, fun a p ha hp => ?_⟩
          · rw [named_A hi, ← hm.ns x, List.count_cons]
            by_cases e : (nthA g.actors i).name = x
            · simp [e]
            · simp [e]
          · simp [hm.lI]
          · simp [hm.lO]
          · by_cases h : a < i
            · rw [nthB_left (by rw [hm.lI]; exact h)]; exact hm.rI a h
            · have e : a = s.I.length := by rw [hm.lI]; omega
              rw [e, nthB_end, List.length_replicate, ← hm.lI]
          · by_cases h : a < i
            · rw [nthB_left (by rw [hm.lO]; exact h)]; exact hm.rO a h
            · have e : a = s.O.length := by rw [hm.lO]; omega
              rw [e, nthB_end, List.length_replicate, ← hm.lO]
          · rw [bit_new (by rw [hm.lI]; exact ha), hm.lI]
            by_cases h : a < i
            · rw [if_pos h]; exact hm.bI a p h hp
            · rw [if_neg h, (tk_none g _ _).1]
          · rw [bit_new (by rw [hm.lO]; exact ha), hm.lO]
            by_cases h : a < i
            · rw [if_pos h]; exact hm.bO a p h hp
            · rw [if_neg h, (tk_none g _ _).2]
        · have ao : openS ⟨(nthA g.actors i).name :: s.ns, s.I, s.O⟩ (nthA g.actors i).tag (nthA g.actors i).params = ((ofS (nthA g.actors i).tag (nthA g.actors i).params).2.2, ⟨(nthA g.actors i).name :: s.ns, s.I, s.O⟩) := by unfold openS; rw [if_neg h4]
          rw [ao, if_neg h4, if_pos h4]
          exact ⟨rfl, fun h => absurd h h4⟩
    · have h1' : nameB (nthA g.actors i).name = false := by simpa using h1
      have ae : enterS s.ns (nthA g.actors i).name = (82, s.ns) := by unfold enterS; rw [if_neg h1]
      have ac : actorC g i = 82 := by unfold actorC; rw [if_pos h1']
      rw [ae, ac]
      exact ⟨rfl, fun h => absurd h (by show ¬ (82 : Int) = 0; decide)⟩
theorem take_out {g : GG} {s : LS} {ne ni no : Nat} (h : Means g s g.actors.length ne ni no) (a p : Int) : takeC s.O a p = outEnd g ne no a p := by
  unfold takeC outEnd endC
  rw [h.lO]
  by_cases h1 : a < 0 ∨ (g.actors.length : Int) ≤ a
  · rw [if_pos h1, if_pos h1]
  · rw [if_neg h1, if_neg h1, h.rO a.toNat (by omega)]
    by_cases h2 : p < 0 ∨ (outsN g a.toNat : Int) ≤ p
    · rw [if_pos h2, if_pos h2]
    · rw [if_neg h2, if_neg h2, h.bO a.toNat p.toNat (by omega) (by omega), Int.toNat_of_nonneg (by omega), Int.toNat_of_nonneg (by omega)]
theorem take_in {g : GG} {s : LS} {ne ni no : Nat} (h : Means g s g.actors.length ne ni no) (a p : Int) : takeC s.I a p = inEnd g ne ni a p := by
  unfold takeC inEnd endC
  rw [h.lI]
  by_cases h1 : a < 0 ∨ (g.actors.length : Int) ≤ a
  · rw [if_pos h1, if_pos h1]
  · rw [if_neg h1, if_neg h1, h.rI a.toNat (by omega)]
    by_cases h2 : p < 0 ∨ (insN g a.toNat : Int) ≤ p
    · rw [if_pos h2, if_pos h2]
    · rw [if_neg h2, if_neg h2, h.bI a.toNat p.toNat (by omega) (by omega), Int.toNat_of_nonneg (by omega), Int.toNat_of_nonneg (by omega)]
theorem end_ok {g : GG} {a p : Int} {n : Nat} {t : Bool} (h : endC g a p n t = 0) : 0 ≤ a ∧ a < (g.actors.length : Int) ∧ 0 ≤ p ∧ p < (n : Int) ∧ t = false := by
  unfold endC at h
  by_cases h1 : a < 0 ∨ (g.actors.length : Int) ≤ a
  · rw [if_pos h1] at h; exact absurd h (by decide)
  · rw [if_neg h1] at h
    by_cases h2 : p < 0 ∨ (n : Int) ≤ p
    · rw [if_pos h2] at h; exact absurd h (by decide)
    · rw [if_neg h2] at h
      cases t
      · exact ⟨by omega, by omega, by omega, by omega, rfl⟩
      · rw [if_pos rfl] at h; exact absurd h (by decide)
theorem nat_eq {a : Int} {b : Nat} (h : 0 ≤ a) : decide (a.toNat = b) = (a == (b : Int)) := by
  by_cases e : a = (b : Int)
  · subst e; simp
  · have h2 : ¬ a.toNat = b := by omega
    simp [e, h2]
/-- What a table says when a port was taken. -/
theorem bits_take {R : List (List Bool)} {a p : Int} (h : takeC R a p = 0) (b q : Nat) : bitB (takeR R a p) b q = (bitB R b q || (a == (b : Int) && p == (q : Int))) := by
  unfold takeR
  rw [if_pos h]
  unfold takeC at h
  by_cases h1 : a < 0 ∨ (R.length : Int) ≤ a
  · rw [if_pos h1] at h; exact absurd h (by decide)
  · rw [if_neg h1] at h
    by_cases h2 : p < 0 ∨ ((nthB R a.toNat).length : Int) ≤ p
    · rw [if_pos h2] at h; exact absurd h (by decide)
    · rw [bit_set (by omega) (by omega), nat_eq (by omega), nat_eq (by omega)]
theorem rows_take {R : List (List Bool)} {a p : Int} (h : takeC R a p = 0) (b : Nat) : (nthB (takeR R a p) b).length = (nthB R b).length := by
  unfold takeR
  rw [if_pos h]
  unfold takeC at h
  by_cases h1 : a < 0 ∨ (R.length : Int) ≤ a
  · rw [if_pos h1] at h; exact absurd h (by decide)
  · exact set_rows (by omega) b
theorem edges_find (g : GG) : ∀ (n i : Nat) (s : LS), n + i = g.edges.length → Means g s g.actors.length i 0 0 →
    (edgesF (g.edges.drop i) i s).1 = loopC n i (edgeC g) 2 ∧ ((edgesF (g.edges.drop i) i s).1.code = 0 → Means g (edgesF (g.edges.drop i) i s).2 g.actors.length g.edges.length 0 0)
  | 0, i, s, hn, hm => by
    have e : g.edges.drop i = [] := List.drop_eq_nil_of_le (by omega)
    rw [e]
    have e2 : i = g.edges.length := by omega
    subst e2
    exact ⟨rfl, fun _ => hm⟩
  | n + 1, i, s, hn, hm => by
    have hi : i < g.edges.length := by omega
    rw [drop_E hi]
    obtain ⟨x, hx⟩ : ∃ x, nthE g.edges i = x := ⟨_, rfl⟩
    have e : edgesF (nthE g.edges i :: g.edges.drop (i + 1)) i s = if takeC s.O x.f x.fp = 0 then (if takeC s.I x.t x.tp = 0 then (if 256 < x.start.length then (⟨88, 2, i, 0⟩, s) else edgesF (g.edges.drop (i + 1)) (i + 1) ⟨s.ns, takeR s.I x.t x.tp, takeR s.O x.f x.fp⟩) else (⟨takeC s.I x.t x.tp, 2, i, 2⟩, s)) else (⟨takeC s.O x.f x.fp, 2, i, 1⟩, s) := by subst hx; rfl
    have l : loopC (n + 1) i (edgeC g) 2 = if (edgeC g i).1 ≠ 0 then ⟨(edgeC g i).1, 2, i, (edgeC g i).2⟩ else loopC n (i + 1) (edgeC g) 2 := rfl
    have q1 := take_out hm x.f x.fp
    have q2 := take_in hm x.t x.tp
    have le : edgeC g i = if takeC s.O x.f x.fp ≠ 0 then (takeC s.O x.f x.fp, 1) else if takeC s.I x.t x.tp ≠ 0 then (takeC s.I x.t x.tp, 2) else if 256 < x.start.length then (88, 0) else (0, 0) := by
      unfold edgeC
      rw [hx, q1, q2]
    rw [e, l]
    by_cases h1 : takeC s.O x.f x.fp = 0
    · rw [if_pos h1]
      have n1 : ¬ takeC s.O x.f x.fp ≠ 0 := fun h => h h1
      by_cases h2 : takeC s.I x.t x.tp = 0
      · rw [if_pos h2]
        have n2 : ¬ takeC s.I x.t x.tp ≠ 0 := fun h => h h2
        by_cases h3 : 256 < x.start.length
        · have ec : edgeC g i = (88, 0) := by rw [le, if_neg n1, if_neg n2, if_pos h3]
          rw [if_pos h3, ec]
          exact ⟨rfl, fun h => absurd h (by show ¬ (88 : Int) = 0; decide)⟩
        · have ec : edgeC g i = (0, 0) := by rw [le, if_neg n1, if_neg n2, if_neg h3]
          rw [if_neg h3, ec, if_neg (by decide)]
          refine edges_find g n (i + 1) _ (by omega) ⟨fun y => hm.ns y, ?_, ?_, fun a ha => ?_, fun a ha => ?_, fun a p ha hp => ?_, fun a p ha hp => ?_⟩
          · show (takeR _ _ _).length = _
            rw [take_len]; exact hm.lI
          · show (takeR _ _ _).length = _
            rw [take_len]; exact hm.lO
          · show (nthB (takeR _ _ _) a).length = _
            rw [rows_take h2]; exact hm.rI a ha
          · show (nthB (takeR _ _ _) a).length = _
            rw [rows_take h1]; exact hm.rO a ha
          · show bitB (takeR _ _ _) a p = _
            rw [bits_take h2, inTk_E hi, hm.bI a p ha hp, hx]
          · show bitB (takeR _ _ _) a p = _
            rw [bits_take h1, outTk_E hi, hm.bO a p ha hp, hx]
      · have ec : edgeC g i = (takeC s.I x.t x.tp, 2) := by rw [le, if_neg n1, if_pos h2]
        rw [if_neg h2, ec, if_pos h2]
        exact ⟨rfl, fun h => absurd h h2⟩
    · have ec : edgeC g i = (takeC s.O x.f x.fp, 1) := by rw [le, if_pos h1]
      rw [if_neg h1, ec, if_pos h1]
      exact ⟨rfl, fun h => absurd h h1⟩
theorem count_new {ns : List (List UInt8)} {x y : List UInt8} {P Q : Prop} (h : (0 < ns.count y) = P) (hQ : Q = (P ∨ x = y)) : (0 < (x :: ns).count y) = Q := by
  rw [hQ, ← h, List.count_cons]
  by_cases e : x = y
  · simp [e]
  · simp [e]
theorem ins_find (g : GG) : ∀ (n i : Nat) (s : LS), n + i = g.ins.length → Means g s g.actors.length g.edges.length i 0 →
    (insF (g.ins.drop i) i s).1 = loopC n i (inC g) 3 ∧ ((insF (g.ins.drop i) i s).1.code = 0 → Means g (insF (g.ins.drop i) i s).2 g.actors.length g.edges.length g.ins.length 0)
  | 0, i, s, hn, hm => by
    have e : g.ins.drop i = [] := List.drop_eq_nil_of_le (by omega)
    rw [e]
    have e2 : i = g.ins.length := by omega
    subst e2
    exact ⟨rfl, fun _ => hm⟩
  | n + 1, i, s, hn, hm => by
    have hi : i < g.ins.length := by omega
    rw [drop_P hi]
    obtain ⟨x, hx⟩ : ∃ x, nthP g.ins i = x := ⟨_, rfl⟩
    have e : insF (nthP g.ins i :: g.ins.drop (i + 1)) i s = if (enterS s.ns x.name).1 = 0 then (if takeC s.I x.actor x.port = 0 then insF (g.ins.drop (i + 1)) (i + 1) ⟨(enterS s.ns x.name).2, takeR s.I x.actor x.port, s.O⟩ else (⟨takeC s.I x.actor x.port, 3, i, 2⟩, s)) else (⟨(enterS s.ns x.name).1, 3, i, 0⟩, s) := by subst hx; rfl
    have l : loopC (n + 1) i (inC g) 3 = if (inC g i).1 ≠ 0 then ⟨(inC g i).1, 3, i, (inC g i).2⟩ else loopC n (i + 1) (inC g) 3 := rfl
    have q2 := take_in hm x.actor x.port
    have le : inC g i = if nameB x.name = false then (82, 0) else if namedB g g.actors.length i 0 x.name = true then (83, 0) else (takeC s.I x.actor x.port, 2) := by
      unfold inC
      rw [hx, q2]
    rw [e, l, le]
    by_cases h1 : nameB x.name = true
    · have hns := hm.ns x.name
      rw [if_neg (by rw [h1]; decide : ¬ nameB x.name = false)]
      by_cases h2 : 0 < s.ns.count x.name
      · have h3 : namedB g g.actors.length i 0 x.name = true := by rw [← hns]; exact h2
        have ae : enterS s.ns x.name = (83, x.name :: s.ns) := by unfold enterS; rw [if_pos h1, if_pos h2]
        rw [ae, if_pos h3]
        exact ⟨rfl, fun h => absurd h (by show ¬ (83 : Int) = 0; decide)⟩
      · have h3 : ¬ namedB g g.actors.length i 0 x.name = true := by rw [← hns]; exact h2
        have ae : enterS s.ns x.name = (0, x.name :: s.ns) := by unfold enterS; rw [if_pos h1, if_neg h2]
        rw [ae, if_neg h3, if_pos rfl]
        by_cases h4 : takeC s.I x.actor x.port = 0
        · rw [if_pos h4, if_neg (by show ¬ takeC s.I x.actor x.port ≠ 0; rw [h4]; decide)]
          refine ins_find g n (i + 1) _ (by omega) ⟨fun y => ?_, ?_, hm.lO, fun a ha => ?_, hm.rO, fun a p ha hp => ?_, hm.bO⟩
          · exact count_new (hm.ns y) (by rw [named_I hi, hx])
          · show (takeR _ _ _).length = _
            rw [take_len]; exact hm.lI
          · show (nthB (takeR _ _ _) a).length = _
            rw [rows_take h4]; exact hm.rI a ha
          · show bitB (takeR _ _ _) a p = _
            rw [bits_take h4, inTk_P hi, hm.bI a p ha hp, hx]
        · rw [if_neg h4, if_pos h4]
          exact ⟨rfl, fun h => absurd h h4⟩
    · have h1' : nameB x.name = false := by simpa using h1
      have ae : enterS s.ns x.name = (82, s.ns) := by unfold enterS; rw [if_neg h1]
      rw [ae, if_pos h1']
      exact ⟨rfl, fun h => absurd h (by show ¬ (82 : Int) = 0; decide)⟩
theorem outs_find (g : GG) : ∀ (n i : Nat) (s : LS), n + i = g.outs.length → Means g s g.actors.length g.edges.length g.ins.length i →
    (outsF (g.outs.drop i) i s).1 = loopC n i (outC g) 4 ∧ ((outsF (g.outs.drop i) i s).1.code = 0 → Means g (outsF (g.outs.drop i) i s).2 g.actors.length g.edges.length g.ins.length g.outs.length)
  | 0, i, s, hn, hm => by
    have e : g.outs.drop i = [] := List.drop_eq_nil_of_le (by omega)
    rw [e]
    have e2 : i = g.outs.length := by omega
    subst e2
    exact ⟨rfl, fun _ => hm⟩
  | n + 1, i, s, hn, hm => by
    have hi : i < g.outs.length := by omega
    rw [drop_P hi]
    obtain ⟨x, hx⟩ : ∃ x, nthP g.outs i = x := ⟨_, rfl⟩
    have e : outsF (nthP g.outs i :: g.outs.drop (i + 1)) i s = if (enterS s.ns x.name).1 = 0 then (if takeC s.O x.actor x.port = 0 then outsF (g.outs.drop (i + 1)) (i + 1) ⟨(enterS s.ns x.name).2, s.I, takeR s.O x.actor x.port⟩ else (⟨takeC s.O x.actor x.port, 4, i, 1⟩, s)) else (⟨(enterS s.ns x.name).1, 4, i, 0⟩, s) := by subst hx; rfl
    have l : loopC (n + 1) i (outC g) 4 = if (outC g i).1 ≠ 0 then ⟨(outC g i).1, 4, i, (outC g i).2⟩ else loopC n (i + 1) (outC g) 4 := rfl
    have q2 := take_out hm x.actor x.port
    have le : outC g i = if nameB x.name = false then (82, 0) else if namedB g g.actors.length g.ins.length i x.name = true then (83, 0) else (takeC s.O x.actor x.port, 1) := by
      unfold outC
      rw [hx, q2]
    rw [e, l, le]
    by_cases h1 : nameB x.name = true
    · have hns := hm.ns x.name
      rw [if_neg (by rw [h1]; decide : ¬ nameB x.name = false)]
      by_cases h2 : 0 < s.ns.count x.name
      · have h3 : namedB g g.actors.length g.ins.length i x.name = true := by rw [← hns]; exact h2
        have ae : enterS s.ns x.name = (83, x.name :: s.ns) := by unfold enterS; rw [if_pos h1, if_pos h2]
        rw [ae, if_pos h3]
        exact ⟨rfl, fun h => absurd h (by show ¬ (83 : Int) = 0; decide)⟩
      · have h3 : ¬ namedB g g.actors.length g.ins.length i x.name = true := by rw [← hns]; exact h2
        have ae : enterS s.ns x.name = (0, x.name :: s.ns) := by unfold enterS; rw [if_pos h1, if_neg h2]
        rw [ae, if_neg h3, if_pos rfl]
        by_cases h4 : takeC s.O x.actor x.port = 0
        · rw [if_pos h4, if_neg (by show ¬ takeC s.O x.actor x.port ≠ 0; rw [h4]; decide)]
          refine outs_find g n (i + 1) _ (by omega) ⟨fun y => ?_, hm.lI, ?_, hm.rI, fun a ha => ?_, hm.bI, fun a p ha hp => ?_⟩
          · exact count_new (hm.ns y) (by rw [named_O hi, hx])
          · show (takeR _ _ _).length = _
            rw [take_len]; exact hm.lO
          · show (nthB (takeR _ _ _) a).length = _
            rw [rows_take h4]; exact hm.rO a ha
          · show bitB (takeR _ _ _) a p = _
            rw [bits_take h4, outTk_P hi, hm.bO a p ha hp, hx]
        · rw [if_neg h4, if_pos h4]
          exact ⟨rfl, fun h => absurd h h4⟩
    · have h1' : nameB x.name = false := by simpa using h1
      have ae : enterS s.ns x.name = (82, s.ns) := by unfold enterS; rw [if_neg h1]
      rw [ae, if_pos h1']
      exact ⟨rfl, fun h => absurd h (by show ¬ (82 : Int) = 0; decide)⟩
theorem gap_any_of {l : List Bool} {n : Nat} {f : Nat → Bool} (hl : l.length = n) (h : ∀ p, p < n → l.getD p false = f p) : l.contains false = (List.range n).any (fun p => !f p) := by
  rw [Bool.eq_iff_iff, List.contains_iff_mem, List.any_eq_true]
  constructor
  · intro hm
    obtain ⟨k, hk, e⟩ := List.mem_iff_getElem.1 hm
    refine ⟨k, List.mem_range.2 (by omega), ?_⟩
    rw [← h k (by omega), List.getD_eq_getElem?_getD, List.getElem?_eq_getElem hk, e]
    rfl
  · rintro ⟨k, hk, e⟩
    have hk' := List.mem_range.1 hk
    have h2 := h k hk'
    rw [List.getD_eq_getElem?_getD, List.getElem?_eq_getElem (by omega)] at h2
    have : f k = false := by simpa using e
    rw [this] at h2
    exact List.mem_iff_getElem.2 ⟨k, by omega, h2⟩
theorem open_find (g : GG) {s : LS} (hm : Means g s g.actors.length g.edges.length g.ins.length g.outs.length) : ∀ (n i : Nat), n + i = g.actors.length → openF s.I s.O n i = loopC n i (openC g) 1
  | 0, _, _ => rfl
  | n + 1, i, hn => by
    have hi : i < g.actors.length := by omega
    have e1 : gapB s.I i = (List.range (insN g i)).any (fun p => !inTk g g.edges.length g.ins.length (i : Int) (p : Int)) := gap_any_of (hm.rI i hi) (fun p hp => hm.bI i p hi hp)
    have e2 : gapB s.O i = (List.range (outsN g i)).any (fun p => !outTk g g.edges.length g.outs.length (i : Int) (p : Int)) := gap_any_of (hm.rO i hi) (fun p hp => hm.bO i p hi hp)
    have e : openF s.I s.O (n + 1) i = if gapB s.I i = true ∨ gapB s.O i = true then ⟨87, 1, i, 0⟩ else openF s.I s.O n (i + 1) := rfl
    have l : loopC (n + 1) i (openC g) 1 = if (openC g i).1 ≠ 0 then ⟨(openC g i).1, 1, i, (openC g i).2⟩ else loopC n (i + 1) (openC g) 1 := rfl
    rw [e, l]
    unfold openC openB
    rw [e1, e2]
    generalize List.any (List.range (insN g i)) _ = x
    generalize List.any (List.range (outsN g i)) _ = y
    have r := open_find g hm n (i + 1) (by omega)
    unfold openC openB at r
    cases x <;> cases y <;> simp [r]
theorem first_find (g : GG) : firstF g = findS g := by
  have hA := actors_find g g.actors.length 0 ⟨[], [], []⟩ (by omega) (means_start g)
  rw [List.drop_zero] at hA
  unfold firstF findS
  by_cases h0 : (headF g).code ≠ 0
  · rw [if_pos h0, if_pos h0]
  rw [if_neg h0, if_neg h0]
  simp only
  rw [hA.1]
  by_cases h1 : (loopC g.actors.length 0 (fun i => (actorC g i, 0)) 1).code ≠ 0
  · rw [if_pos h1, if_pos h1]
  rw [if_neg h1, if_neg h1]
  have hE := edges_find g g.edges.length 0 _ (by omega) (hA.2 (by rw [hA.1]; simpa using h1))
  rw [List.drop_zero] at hE
  rw [hE.1]
  by_cases h2 : (loopC g.edges.length 0 (edgeC g) 2).code ≠ 0
  · rw [if_pos h2, if_pos h2]
  rw [if_neg h2, if_neg h2]
  have hI := ins_find g g.ins.length 0 _ (by omega) (hE.2 (by rw [hE.1]; simpa using h2))
  rw [List.drop_zero] at hI
  rw [hI.1]
  by_cases h3 : (loopC g.ins.length 0 (inC g) 3).code ≠ 0
  · rw [if_pos h3, if_pos h3]
  rw [if_neg h3, if_neg h3]
  have hO := outs_find g g.outs.length 0 _ (by omega) (hI.2 (by rw [hI.1]; simpa using h3))
  rw [List.drop_zero] at hO
  rw [hO.1]
  by_cases h4 : (loopC g.outs.length 0 (outC g) 4).code ≠ 0
  · rw [if_pos h4, if_pos h4]
  rw [if_neg h4, if_neg h4]
  exact open_find g (hO.2 (by rw [hO.1]; simpa using h4)) g.actors.length 0 (by omega)
theorem loop_zero {f : Nat → Int × Nat} {k : Nat} : ∀ (n i : Nat), (loopC n i f k).code = 0 → ∀ j, i ≤ j → j < i + n → (f j).1 = 0
  | 0, i, _, j, h1, h2 => by omega
  | n + 1, i, h, j, h1, h2 => by
    have e : loopC (n + 1) i f k = if (f i).1 ≠ 0 then ⟨(f i).1, k, i, (f i).2⟩ else loopC n (i + 1) f k := rfl
    rw [e] at h
    by_cases h0 : (f i).1 ≠ 0
    · rw [if_pos h0] at h; exact absurd h h0
    · rw [if_neg h0] at h
      by_cases hj : j = i
      · subst hj; simpa using h0
      · exact loop_zero n (i + 1) h j (by omega) (by omega)
theorem zero_loop {f : Nat → Int × Nat} {k : Nat} : ∀ (n i : Nat), (∀ j, i ≤ j → j < i + n → (f j).1 = 0) → (loopC n i f k).code = 0
  | 0, _, _ => rfl
  | n + 1, i, h => by
    have e : loopC (n + 1) i f k = if (f i).1 ≠ 0 then ⟨(f i).1, k, i, (f i).2⟩ else loopC n (i + 1) f k := rfl
    rw [e, if_neg (by rw [h i (Nat.le_refl _) (by omega)]; decide)]
    exact zero_loop n (i + 1) fun j h1 h2 => h j (by omega) (by omega)
structure SoundG (g : GG) : Prop where
  head : (headF g).code = 0
  acts : ∀ i, i < g.actors.length → actorC g i = 0
  edges : ∀ i, i < g.edges.length → (edgeC g i).1 = 0
  ins : ∀ i, i < g.ins.length → (inC g i).1 = 0
  outs : ∀ i, i < g.outs.length → (outC g i).1 = 0
  opens : ∀ i, i < g.actors.length → openB g i = false
theorem sound_iff (g : GG) : (firstF g).code = 0 ↔ SoundG g := by
  rw [first_find]
  unfold findS
  constructor
  · intro h
    by_cases h0 : (headF g).code ≠ 0
    · rw [if_pos h0] at h; exact absurd h h0
    rw [if_neg h0] at h
    by_cases h1 : (loopC g.actors.length 0 (fun i => (actorC g i, 0)) 1).code ≠ 0
    · rw [if_pos h1] at h; exact absurd h h1
    rw [if_neg h1] at h
    by_cases h2 : (loopC g.edges.length 0 (edgeC g) 2).code ≠ 0
    · rw [if_pos h2] at h; exact absurd h h2
    rw [if_neg h2] at h
    by_cases h3 : (loopC g.ins.length 0 (inC g) 3).code ≠ 0
    · rw [if_pos h3] at h; exact absurd h h3
    rw [if_neg h3] at h
    by_cases h4 : (loopC g.outs.length 0 (outC g) 4).code ≠ 0
    · rw [if_pos h4] at h; exact absurd h h4
    rw [if_neg h4] at h
    refine ⟨by simpa using h0, fun i hi => loop_zero _ _ (by simpa using h1) i (Nat.zero_le _) (by omega), fun i hi => loop_zero _ _ (by simpa using h2) i (Nat.zero_le _) (by omega), fun i hi => loop_zero _ _ (by simpa using h3) i (Nat.zero_le _) (by omega), fun i hi => loop_zero _ _ (by simpa using h4) i (Nat.zero_le _) (by omega), fun i hi => ?_⟩
    have := loop_zero _ _ h i (Nat.zero_le _) (by omega)
    unfold openC at this
    cases hb : openB g i
    · rfl
    · rw [hb] at this; exact absurd this (by decide)
  · intro h
    have e1 := zero_loop (f := fun i => (actorC g i, 0)) (k := 1) g.actors.length 0 fun j _ hj => h.acts j (by omega)
    have e2 := zero_loop (f := edgeC g) (k := 2) g.edges.length 0 fun j _ hj => h.edges j (by omega)
    have e3 := zero_loop (f := inC g) (k := 3) g.ins.length 0 fun j _ hj => h.ins j (by omega)
    have e4 := zero_loop (f := outC g) (k := 4) g.outs.length 0 fun j _ hj => h.outs j (by omega)
    rw [if_neg (by rw [h.head]; decide), if_neg (by rw [e1]; decide), if_neg (by rw [e2]; decide), if_neg (by rw [e3]; decide), if_neg (by rw [e4]; decide)]
    refine zero_loop _ _ fun j _ hj => ?_
    unfold openC
    rw [h.opens j (by omega)]
    rfl
theorem head_ok {g : GG} (h : (headF g).code = 0) : nameB g.name = true ∧ 0 < g.actors.length ∧ g.actors.length ≤ 32 ∧ g.edges.length ≤ 96 ∧ g.ins.length ≤ 16 ∧ g.outs.length ≤ 16 := by
  unfold headF at h
  split at h
  · exact absurd h (by decide)
  · rename_i h1
    split at h
    · exact absurd h (by decide)
    · split at h
      · exact absurd h (by decide)
      · split at h
        · exact absurd h (by decide)
        · split at h
          · exact absurd h (by decide)
          · split at h
            · exact absurd h (by decide)
            · exact ⟨by simpa using h1, by omega, by omega, by omega, by omega, by omega⟩
theorem actor_ok {g : GG} {i : Nat} (h : actorC g i = 0) : nameB (nthA g.actors i).name = true ∧ namedB g i 0 0 (nthA g.actors i).name = false ∧ (ofS (nthA g.actors i).tag (nthA g.actors i).params).2.2 = 0 := by
  unfold actorC at h
  split at h
  · exact absurd h (by decide)
  · rename_i h1
    split at h
    · exact absurd h (by decide)
    · rename_i h2
      exact ⟨by simpa using h1, by simpa using h2, h⟩
/-- What is known of an edge of a sound graph. -/
structure EdgeOk (g : GG) (e : GE) : Prop where
  f0 : 0 ≤ e.f
  f1 : e.f < (g.actors.length : Int)
  fp0 : 0 ≤ e.fp
  fp1 : e.fp < (outsN g e.f.toNat : Int)
  t0 : 0 ≤ e.t
  t1 : e.t < (g.actors.length : Int)
  tp0 : 0 ≤ e.tp
  tp1 : e.tp < (insN g e.t.toNat : Int)
  st : e.start.length ≤ 256
theorem edge_ok {g : GG} {i : Nat} (h : (edgeC g i).1 = 0) : EdgeOk g (nthE g.edges i) ∧ outTk g i 0 (nthE g.edges i).f (nthE g.edges i).fp = false ∧ inTk g i 0 (nthE g.edges i).t (nthE g.edges i).tp = false := by
  unfold edgeC at h
  split at h
  · rename_i h1; exact absurd h h1
  · rename_i h1
    split at h
    · rename_i h2; exact absurd h h2
    · rename_i h2
      split at h
      · exact absurd h (by decide)
      · rename_i h3
        have e1 := end_ok (show endC _ _ _ _ _ = 0 by simpa [outEnd] using h1)
        have e2 := end_ok (show endC _ _ _ _ _ = 0 by simpa [inEnd] using h2)
        exact ⟨⟨e1.1, e1.2.1, e1.2.2.1, e1.2.2.2.1, e2.1, e2.2.1, e2.2.2.1, e2.2.2.2.1, by omega⟩, e1.2.2.2.2, e2.2.2.2.2⟩
end Go.Proofs.YtmnbapcbailcbaaGreat
