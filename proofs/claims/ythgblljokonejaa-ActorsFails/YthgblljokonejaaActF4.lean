/- The firings of copies and unweave. (Written by tmpl/mkAct4.py.) -/
import Derived.Test.YthgblljokonejaaActT
namespace Go.Proofs.Ythgblljokonejaa
open Go.ChangeShapes Go.WideShapes Go.ChangeAt Go.RowKit

set_option maxRecDepth 100000 in
set_option maxHeartbeats 2000000 in
theorem fire_9 (F : Nat → Prop) (w : World) (K : Nat) (zs ks : List Int) (n : Nat) (a : Option Addr) (len cap : Nat) (I : List (List Int)) (hk : KinE F w K 9 zs ks n) (hA : ArgL w a len I) (ht : takesS 9 zs I = true) :
    Calls Try.prog 150 #[.pointer (some ⟨K, 0, none⟩), .slice a len cap] w (GaveK F w K 9 zs ks n I) := by
  have HK := hidden6 hk
  have S : Hid (∀ (x : Int) V, Calls Try.prog 136 #[.int .i64 x] V (SingleEnd V x)) := fun x V => single_any x V
  obtain ⟨a1, a2, a3, a4, c1, c2, c3, c4, h⟩ := hk
  have hp := (ins_pos 9 (by decide) zs h.ok).2 0 (by show 0 < 1; decide)
  obtain ⟨b, off, xb, xo, m, c, rfl, l0, m0, hm, y0, y1⟩ := first_tok hA ht (by show 0 < 1; decide) hp.1
  have l0i : (0 : Int) < (len : Int) := by omega
  have m0i : (0 : Int) < (m : Int) := by omega
  have hx := hA.fits 0 0
  have hok := (ok_one rfl h.ok).2
  obtain ⟨N, hN⟩ : ∃ N : Nat, nth zs 0 = (N : Int) := ⟨(nth zs 0).toNat, by omega⟩
  have hol : (outsS 9 zs).length = N := by show (List.replicate (nth zs 0).toNat 1).length = N; rw [hN]; simp
  have z1 : w.cell? ⟨K, 1, none⟩ = some (.slice a2 (outsS 9 zs).length c2) := h.blk.cell (k := 1) rfl
  rw [hol] at z1
  have GV : Hid (giveS 9 zs ks I = some (List.replicate N [nth (nthL I 0) 0], ks)) := by
    show some (List.replicate (nth zs 0).toNat [nth (nthL I 0) 0], ks) = _
    rw [hN]; rfl
  have hN1 : 1 ≤ N ∧ N ≤ 16 := by omega
  have hmk := run_make_row' (P := Try.prog) 37 22 (.slice none 0 0) 24 Try.underlying37 Try.info22 rfl .i64 .i64 N (by omega) (by omega)
  have ST := hidden6 (tabS_start w N)
  clear hA ht h hp hm hok hol hN
  generalize nth (nthL I 0) 0 = x at *
  go_enter Try.func150, Try.ntmps150
  go_wp2
  clear hmk
  generalize w.alloc (.cells (madeCells #[.slice none 0 0] N) 22) = w0 at *
  go_loopg [17] N (fun gk v wr => ∃ (k : Nat) (D : Nat → Option Addr) (E : Nat → Nat) (Y : Nat → List Int), k ≤ N ∧ gk = N - k ∧ v = .int .i64 (k : Int) ∧ TabS w.heap.size w wr w.heap.size N D E Y ∧ ∀ j, j < k → Y j = [x])
  case atStart => exact ⟨0, _, _, _, Nat.zero_le _, rfl, rfl, ST.out, fun j hj => by omega⟩
  case round =>
    clear ST
    obtain ⟨k, D, E, Y, hk, rfl, rfl, hT, hY⟩ := hrel
    have HT := hidden6 hT
    have HY := hidden6 hY
    clear hT hY
    by_cases hlt : k < N
    · have hki : (k : Int) < (N : Int) := by omega
      have y0' := cell_keep6 HT.out.bel y0
      have y1' := cell_keep6 HT.out.bel y1
      have t1 := HT.out.long.cell hlt
      have t2 := HT.out.long.frozen k
      have hb1 := (Below.refl wr.heap.size wr).alloc (Nat.le_refl _) (.cells #[.int .i64 x] 3)
      have HP := hidden6 (HT.out.put hlt ((capR_one wr x).mono HT.out.bel.size) (fun q h1 _ => hb1.block q h1) (hb1.mono HT.out.bel.size) (fun z hz => by cases hz; exact .inr (Nat.le_refl _)))
      have HY2 : Hid (∀ j, j < k + 1 → upd Y k [x] j = [x]) := fun j hj => by
        by_cases e : j = k
        · subst e; exact upd_eq ..
        · rw [upd_ne e]; exact HY.out j (by omega)
      have hH := HT.out.long.lt
      clear hb1
      go_wp2
      go_roundg (N - (k + 1))
      case measure => omega
      case rel => exact ⟨k + 1, _, _, _, by omega, rfl, by go_num, (by have h9 := HP.out; rw [World.setCell_alloc_past _ _ _ _ hH] at h9; exact h9), HY2.out⟩
    · have ek : k = N := by omega
      subst ek
      have hki : ¬ (k : Int) < (k : Int) := by omega
      have eO : (List.range k).map Y = List.replicate k [x] := list_nthL (by simp) fun j hj => by
        have hj' : j < k := by simpa using hj
        rw [nthL_map hj', nthL_rep hj']; exact HY.out j hj'
      have HO := HT.out.out
      rw [eO] at HO
      have HO2 := hidden6 HO
      clear HO eO
      go_wp2
      go_ret2
      have := gave_plain (c := k) GV.out HK.out HO2.out HT.out.bel
      rw [List.length_replicate] at this
      exact this
set_option maxRecDepth 100000 in
set_option maxHeartbeats 2000000 in
theorem fire_5 (F : Nat → Prop) (w : World) (K : Nat) (zs ks : List Int) (n : Nat) (a : Option Addr) (len cap : Nat) (I : List (List Int)) (hk : KinE F w K 5 zs ks n) (hA : ArgL w a len I) (ht : takesS 5 zs I = true) :
    Calls Try.prog 144 #[.pointer (some ⟨K, 0, none⟩), .slice a len cap] w (GaveK F w K 5 zs ks n I) := by
  have HK := hidden6 hk
  have S : Hid (∀ (x : Int) V, Calls Try.prog 136 #[.int .i64 x] V (SingleEnd V x)) := fun x V => single_any x V
  obtain ⟨a1, a2, a3, a4, c1, c2, c3, c4, h⟩ := hk
  have hp := (ins_pos 5 (by decide) zs h.ok).2 0 (by show 0 < 1; decide)
  obtain ⟨b, off, xb, xo, m, c, rfl, l0, m0, hm, y0, y1⟩ := first_tok hA ht (by show 0 < 1; decide) hp.1
  have l0i : (0 : Int) < (len : Int) := by omega
  have m0i : (0 : Int) < (m : Int) := by omega
  have hx := hA.fits 0 0
  obtain ⟨i0, hi, hz0, hz1, hz2⟩ := info_parts Try.info3
  have hok := (ok_two rfl h.ok).2
  obtain ⟨N, hN⟩ : ∃ N : Nat, nth zs 0 = (N : Int) := ⟨(nth zs 0).toNat, by omega⟩
  obtain ⟨M, hM⟩ : ∃ M : Nat, nth zs 1 = (M : Int) := ⟨(nth zs 1).toNat, by omega⟩
  rw [hN, hM] at hok
  have hol : (outsS 5 zs).length = N := by show (List.replicate (nth zs 0).toNat (nth zs 1)).length = N; rw [hN]; simp
  have z1 : w.cell? ⟨K, 1, none⟩ = some (.slice a2 (outsS 5 zs).length c2) := h.blk.cell (k := 1) rfl
  rw [hol] at z1
  obtain ⟨R, hR⟩ : ∃ R, nthL I 0 = R := ⟨_, rfl⟩
  have hml : m = N * M := by
    have h1 := takes_nth ht (k := 0) (by have := hA.size; omega)
    have h2 : nth (insS 5 zs) 0 = ((N * M : Nat) : Int) := by show nth zs 0 * nth zs 1 = _; rw [hN, hM, Int.natCast_mul]
    omega
  have GV : Hid (giveS 5 zs ks I = some (partS N M R, ks)) := by
    show some (partS (nth zs 0).toNat (nth zs 1).toNat (nthL I 0), ks) = _
    rw [hN, hM, hR]; rfl
  have hN1 : 1 ≤ N ∧ N ≤ 16 := by omega
  have hmb : m ≤ 1024 := by
    have h1 := mul_bound hok.1 hok.2
    rw [← Int.natCast_mul] at h1
    omega
  have RC : Hid (∀ j, j < m → w.cell? ⟨xb, xo + j, none⟩ = some (.int .i64 (nth R j))) := fun j hj => by
    obtain ⟨b', off', xb', xo', c', e, g1, g2⟩ := tok_cell hA.lies (i := 0) (j := j) (by have := hA.size; omega) (by omega)
    cases e
    rw [Nat.add_zero, y0] at g1
    injection g1 with g1
    injection g1 with g3
    cases g3
    rw [hR] at g2
    exact g2
  have HML := hidden6 hml
  have hmk := run_make_row' (P := Try.prog) 37 22 (.slice none 0 0) 24 Try.underlying37 Try.info22 rfl .i64 .i64 N (by omega) (by omega)
  have ST := hidden6 (tabS_start w N)
  have y0a := cell_keep6 ST.out.bel y0
  clear hA ht h hp hm hok hol hN hM hml y1 hx hR
  go_enter Try.func144, Try.ntmps144
  go_wp2
  clear hmk
  generalize w.alloc (.cells (madeCells #[.slice none 0 0] N) 22) = w0 at *
  go_loopg [21] m (fun gk v wr => ∃ (k : Nat) (D : Nat → Option Addr) (E : Nat → Nat) (Y : Nat → List Int), k ≤ m ∧ gk = m - k ∧ v = .int .i64 (k : Int) ∧ TabS w.heap.size w wr w.heap.size N D E Y ∧ ∀ j, j < N → Y j = (List.range (cntS N k j)).map fun q => nth R (q * N + j))
  case atStart => exact ⟨0, _, _, _, Nat.zero_le _, rfl, rfl, ST.out, fun j hj => by unfold cntS; simp⟩
  case round =>
    clear ST
    obtain ⟨k, D, E, Y, hk, rfl, rfl, hT, hY⟩ := hrel
    have HT := hidden6 hT
    have HY := hidden6 hY
    clear hT hY
    by_cases hlt : k < m
    · have hki : (k : Int) < (m : Int) := by omega
      have y0' := cell_keep6 HT.out.bel y0
      have y1' := cell_keep6 HT.out.bel (RC.out k hlt)
      obtain ⟨p, hp⟩ : ∃ p, k % N = p := ⟨_, rfl⟩
      have hpl : p < N := by rw [← hp]; exact Nat.mod_lt _ (by omega)
      have hpi : (p : Int) < (N : Int) := by omega
      have hrem : (k : Int).tmod (N : Int) = (p : Int) := by rw [← hp]; rfl
      have hz : ¬ N = 0 := by omega
      have t1 := HT.out.long.cell hpl
      have t2 := HT.out.long.frozen p
      have hown := HT.out.own p hpl
      have hYp := HY.out p hpl
      have hc1 : cntS N k p = k / N := by rw [← hp]; exact cnt_here
      have hYl : (Y p).length = k / N := by rw [hYp, hc1]; simp
      have hkl : k / N ≤ 1024 := Nat.le_trans (Nat.div_le_self _ _) (by omega)
      have HY2 : Hid (∀ j, j < N → upd Y p (Y p ++ [nth R k]) j = (List.range (cntS N (k + 1) j)).map fun q => nth R (q * N + j)) := fun j hj => by
        have h1 := cnt_step (k := k) (show 0 < N by omega) j hj
        by_cases e : j = p
        · subst e
          rw [if_pos hp.symm] at h1
          rw [upd_eq, h1, List.range_succ, List.map_append, ← hYp, hc1]
          have e2 : k / N * N + j = k := by rw [← hp, Nat.mul_comm]; exact Nat.div_add_mod k N
          simp [e2]
        · rw [if_neg (by omega)] at h1
          rw [upd_ne e, h1]; exact HY.out j hj
      have PUT : Hid (∀ (w2 : World) (v' : Value), w2.ownsRow w.heap.size 3 1 v' (k / N + 1) ((Y p).map (Value.int .i64) ++ [.int .i64 (nth R k)]) → ((∃ g cap, Value.slice (D p) (k / N) (E p) = .slice (some ⟨g, 0, none⟩) (k / N) cap ∧ v' = .slice (some ⟨g, 0, none⟩) (k / N + 1) cap ∧ (wr.alloc (.cells #[.int .i64 (nth R k)] 3)).grownBy w2 (some g)) ∨ (∃ cap, v' = .slice (some ⟨(wr.alloc (.cells #[.int .i64 (nth R k)] 3)).heap.size, 0, none⟩) (k / N + 1) cap ∧ (wr.alloc (.cells #[.int .i64 (nth R k)] 3)).grownBy w2 none)) →
          ∃ d c, v' = .slice d (k / N + 1) c ∧ TabS w.heap.size w (w2.setCell ⟨w.heap.size, p, none⟩ (.slice d (k / N + 1) c)) w.heap.size N (upd D p d) (upd E p c) (upd Y p (Y p ++ [nth R k])) ∧ w2.cell? ⟨w.heap.size, p, none⟩ = some (.slice (D p) (k / N) (E p)) ∧ w2.frozen? ⟨w.heap.size, p, none⟩ = false) := fun w2 v' ho hg => by
        have hT := HT.out
        have hl2 : (Y p ++ [nth R k]).length = k / N + 1 := by simp [hYl]
        have hH := hT.long.lt
        have hsz : (wr.alloc (.cells #[.int .i64 (nth R k)] 3)).heap.size = wr.heap.size + 1 := by simp
        have ba := (Below.refl wr.heap.size wr).alloc (Nat.le_refl _) (.cells #[.int .i64 (nth R k)] 3)
        have capd : ∀ d c, v' = .slice d (k / N + 1) c → CapR w.heap.size w2 d c (Y p ++ [nth R k]) := fun d c e => by
          unfold CapR
          rw [hl2, List.map_append, ← e]
          exact ho
        have fin : ∀ d c row, v' = .slice d (k / N + 1) c → (wr.alloc (.cells #[.int .i64 (nth R k)] 3)).grownBy w2 row → (∀ q, row = some q → ∃ y, D p = some y ∧ y.block = q) → (∀ z, d = some z → D p = some z ∨ wr.heap.size ≤ z.block) → ∃ d c, v' = .slice d (k / N + 1) c ∧ TabS w.heap.size w (w2.setCell ⟨w.heap.size, p, none⟩ (.slice d (k / N + 1) c)) w.heap.size N (upd D p d) (upd E p c) (upd Y p (Y p ++ [nth R k])) ∧ w2.cell? ⟨w.heap.size, p, none⟩ = some (.slice (D p) (k / N) (E p)) ∧ w2.frozen? ⟨w.heap.size, p, none⟩ = false := fun d c row e hgr hrow hz => by
          have hk2 : ∀ q, q < wr.heap.size → (∀ y, D p = some y → y.block ≠ q) → w2.heap[q]? = wr.heap[q]? := fun q h1 h2 => by
            rw [hgr.block q (by omega) (fun e => by obtain ⟨y, h3, h4⟩ := hrow q e.symm; exact h2 y h3 h4)]
            exact ba.block q h1
          have hb2 : Below w.heap.size wr w2 := (ba.mono hT.bel.size).grown hgr (by have := hT.bel.size; omega) (fun q e => by obtain ⟨y, h3, h4⟩ := hrow q e; rw [← h4]; exact ((hT.own p hpl).lt y h3).1)
          have hP := hT.put hpl (capd d c e) hk2 hb2 hz
          rw [hl2] at hP
          have hHb := hk2 w.heap.size hH (fun y hy => hT.dt p y hpl hy)
          refine ⟨d, c, e, hP, ?_, ?_⟩
          · rw [World.cell?_of_block (w := wr) (a := ⟨w.heap.size, p, none⟩) hHb, hT.long.cell hpl, hYl]
          · rw [World.frozen?_of_block (w := wr) (a := ⟨w.heap.size, p, none⟩) hHb]; exact hT.long.frozen p
        rcases hg with ⟨g, cp, e1, e2, hgr⟩ | ⟨cp, e2, hgr⟩
        · injection e1 with e3 e4 e5
          exact fin _ _ _ e2 hgr (fun q e => by cases e; exact ⟨_, e3, rfl⟩) (fun z hz => by cases hz; exact .inl e3)
        · exact fin _ _ _ e2 hgr (fun q e => by cases e) (fun z hz => by cases hz; exact .inr (by simp))
      have hown2 : wr.ownsRow w.heap.size 3 1 (.slice (D p) (k / N) (E p)) (k / N) ((Y p).map (Value.int .i64)) := by rw [← hYl]; exact hown
      rw [hYl] at t1
      have hbs := HT.out.bel.size
      clear hown hYp hc1 hYl HT HY hp
      generalize nth R k = y at *
      generalize k / N = s at *
      generalize (Y p).map (Value.int .i64) = Yi at *
      go_wp2_with (at_builtin; refine wpList_append_told _ rfl (.tmp 35) (.tmp 37) 22 rfl w.heap.size 3 i0 (.int .i64 0) 1 8 Try.underlying22 hi hz0 hz1 hz2 rfl (by decide) _ s _ rfl (World.ownsRow.alloc hown2 _) ⟨wr.heap.size, 0, none⟩ 1 1 (by decide) [.int .i64 y] rfl rfl (one_new' _ _ _) (one_cell' _) (by unfold maxLen; omega) (by omega) (by simp; omega) ?_; intro v' w2 hown' hgrow; obtain ⟨d, c9, rfl, KB, hlc2, hlf2⟩ := PUT.out w2 _ hown' hgrow; have KBB := hidden6 KB; clear KB hown' hgrow hown2 t1 t2)
      go_roundg (m - (k + 1))
      case measure => omega
      case rel => exact ⟨k + 1, _, _, _, by omega, rfl, by go_num, KBB.out, HY2.out⟩
    · have ek : k = m := by omega
      subst ek
      have hki : ¬ (k : Int) < (k : Int) := by omega
      have eO : (List.range N).map Y = partS N M R := list_nthL (by simp [partS]) fun j hj => by
        have hj' : j < N := by simpa using hj
        rw [nthL_map hj', part_nth hj', HY.out j hj', HML.out, cnt_end (by omega)]
      have HO := HT.out.out
      rw [eO] at HO
      have HO2 := hidden6 HO
      clear HO eO
      go_wp2
      go_ret2
      have := gave_plain (c := N) GV.out HK.out HO2.out HT.out.bel
      rw [part_len] at this
      exact this
end Go.Proofs.Ythgblljokonejaa
