/- Rows that lie apart are told so (pianolakeep.Apart). -/
import Derived.Test.YtancphohpedigaaApartM
import Derived.Deep.LoopGhost
import Derived.Deep.DeepCutAuto
namespace Go.Proofs.Ytancphohpedigaa
open Go.ChangeShapes Go.WideShapes Go.ChangeAt Go.RowKit

theorem Try.info45 : (Try.prog.info? 45).map (fun i => (i.zero, i.size, i.bytes)) = some (some (.slice none 0 0), 1, 24) := by kernel_rfl

/-- A table of rows of the caller's own that lie apart. -/
structure Table (B : Nat) (w : World) (G n : Nat) (A : Nat → Option Addr) (L C : Nat → Nat) (Z : Nat → List Int) : Prop where
  rows : ∀ j, j < n → CapR B w (A j) (C j) (Z j) ∧ (Z j).length = L j
  tab : ∀ j, j < n → w.cell? ⟨G, j, none⟩ = some (.slice (A j) (L j) (C j))
  apart : ∀ j k x y, j < n → k < n → j ≠ k → A j = some x → A k = some y → x.block ≠ y.block
  tabs : ∀ j x, j < n → A j = some x → x.block ≠ G
  lt : G < w.heap.size
  low : B ≤ w.heap.size
  most : n ≤ 5864062014805
  short : ∀ j, j < n → L j * 8 ≤ 140737488351232

set_option maxRecDepth 100000 in
set_option maxHeartbeats 2000000 in
theorem apart_keeps (B G n cap : Nat) (A : Nat → Option Addr) (L C : Nat → Nat) (Z : Nat → List Int) (w : World) (h : Table B w G n A L C Z) :
    Calls Try.prog 38 #[.slice (some ⟨G, 0, none⟩) n cap] w fun e w' => e = .returned (.bool true) ∧ Below B w w' ∧ ∀ k, k < w.heap.size → (∀ j x, j < n → A j = some x → x.block ≠ k) → w'.heap[k]? = w.heap[k]? := by
  have hn := h.most
  have hmk := run_make_row' (P := Try.prog) 57 45 (.slice none 0 0) 24 Try.underlying57 Try.info45 rfl .i64 .i64 n (by omega) (by omega)
  obtain ⟨i0, hi, hz0, hz1, hz2⟩ := info_parts Try.info3
  have F : Hid (Fam n G w.heap.size A) := ⟨h.apart, fun j x hj hx => ⟨h.tabs j x hj hx, by have := (h.rows j hj).1.lt x hx; omega, ((h.rows j hj).1.lt x hx).2⟩, by have := h.lt; omega⟩
  have HL : Hid (∀ j, j < n → L j * 8 ≤ 140737488351232) := h.short
  have HB : Hid (B ≤ w.heap.size) := h.low
  have HG : Hid (G < w.heap.size) := h.lt
  have ST : Hid (ApA B n G w.heap.size 0 w (w.alloc (.cells (madeCells #[.slice none 0 0] n) 45)) A L C 0 Z) :=
    ⟨fun j hj => ⟨(h.rows j hj).1.later ((Below.refl _ _).alloc (Nat.le_refl _) _), (h.rows j hj).2⟩, fun j hj => by
      rw [Nat.zero_add, ((Below.refl w.heap.size w).alloc (Nat.le_refl _) _).cell (p := ⟨G, j, none⟩) h.lt]
      exact h.tab j hj, (World.rowIs_made w (.slice none 0 0) n 45).congr (fun j _ => by rw [if_neg (by omega)]), ⟨(Below.refl _ _).alloc h.low _, fun k h1 _ _ => Below.heap_alloc w _ k h1⟩, h.low⟩
  clear h
  go_enter Try.func38, Try.ntmps38
  go_wp2
  clear hmk
  generalize w.alloc (.cells (madeCells #[.slice none 0 0] n) 45) = w0 at *
  generalize hHH : w.heap.size = H at *
  go_loopg [4] n (fun gk v wr => ∃ (i : Nat) (Z : Nat → List Int), i ≤ n ∧ gk = n - i ∧ v = .int .i64 i ∧ ApA B n G H 0 w wr A L C i Z ∧ Marked L Z i)
  case atStart => exact ⟨0, Z, Nat.zero_le _, rfl, rfl, ST.out, fun j hj => by omega⟩
  case round =>
    clear ST
    obtain ⟨i, Z, hin, rfl, rfl, S, hM⟩ := hrel
    have HM : Hid (Marked L Z i) := hM
    have HS : Hid (ApA B n G H 0 w wr A L C i Z) := S
    clear hM S
    by_cases hlt : i < n
    · have hii : (i : Int) < (n : Int) := by omega
      have hLi := HL.out i hlt
      go_wp2
      go_loopg [5] (L i) (fun gm v wr => ∃ (k : Nat) (Z : Nat → List Int), k ≤ L i ∧ gm = L i - k ∧ v = .int .i64 k ∧ ApA B n G H 0 w wr A L C i Z ∧ Marked L Z i ∧ ∀ k', k' < k → nth (Z i) k' = mk i k')
      case atStart => exact ⟨0, Z, Nat.zero_le _, rfl, rfl, HS.out, HM.out, fun k' hk' => by omega⟩
      case round =>
        clear HS HM
        obtain ⟨k, Z, hk, rfl, rfl, S, hM, hP⟩ := hrel
        have HM : Hid (Marked L Z i) := hM
        have HP : Hid (∀ k', k' < k → nth (Z i) k' = mk i k') := hP
        have HS : Hid (ApA B n G H 0 w wr A L C i Z) := S
        have ht := S.tab i hlt
        rw [Nat.zero_add] at ht
        clear hM hP
        by_cases hlk : k < L i
        · have hkk : (k : Int) < (L i : Int) := by omega
          have hrow := S.rows i hlt
          obtain ⟨g, hg, hg1, hg2⟩ := hrow.1.there (by omega)
          have HGG : Hid (A i = some ⟨g, 0, none⟩) := hg
          rw [hg] at ht
          have hrw := hrow.1
          rw [hg] at hrw
          have hc := hrw.nthCell (k := k) (by omega)
          have hf := hrw.fz k
          have KS := HS.out.mark F.out (k := k) hlt hg (mk i k)
          have KM : Hid (Marked L (upd Z i ((Z i).set k (mk i k))) i ∧ ∀ k', k' < k + 1 → nth (upd Z i ((Z i).set k (mk i k)) i) k' = mk i k') := by
            refine ⟨fun j hj q hq => ?_, fun q hq => ?_⟩
            · rw [upd_ne (by omega)]; exact HM.out j hj q hq
            · rw [upd_eq]
              by_cases e : k = q
              · subst e
                exact nth_set_eq (by omega)
              · rw [nth_set_ne e]
                exact HP.out q (by omega)
          have hmk0 : (i : Int) * 1000003 + (k : Int) = mk i k := rfl
          obtain ⟨x, hx⟩ : ∃ x, (i : Int) * 1000003 = x := ⟨_, rfl⟩
          have hx1 : 0 ≤ x ∧ x ≤ 5864079606991044415 := by omega
          rw [hx] at hmk0
          have hy1 : 0 ≤ mk i k ∧ mk i k ≤ 5900000000000000000 := by rw [← hmk0]; omega
          have KS' : Hid (ApA B n G H 0 w (wr.setCell ⟨g, k, none⟩ (.int .i64 (mk i k))) A L C i (upd Z i ((Z i).set k (mk i k)))) := KS
          clear S hrow hg hrw HS HM HP KS hg1 hg2
          generalize mk i k = y at *
          generalize nth (Z i) k = old at *
          go_wp2
          go_roundg (L i - (k + 1))
          case measure => omega
          case rel => exact ⟨k + 1, _, by omega, rfl, by go_num, KS'.out, KM.out.1, KM.out.2⟩
        · have hkk : ¬ (k : Int) < (L i : Int) := by omega
          have ek : k = L i := by omega
          have KN : Hid (ApA B n G H 0 w (wr.setCell ⟨H, i, none⟩ (.slice (A i) (L i) (C i))) A L C (i + 1) Z) := S.next F.out hlt
          have KM : Hid (Marked L Z (i + 1)) := fun j hj q hq => by
            by_cases e : j < i
            · exact HM.out j e q hq
            · have : j = i := by omega
              subst this
              exact HP.out q (by omega)
          have hlc := S.long.cell hlt
          rw [if_neg (by omega)] at hlc
          have hlf := S.long.frozen i
          clear S ek HM HP HS
          go_wp2
          go_roundg (n - (i + 1))
          case measure => omega
          case rel => exact ⟨i + 1, _, by omega, rfl, by go_num, KN.out, KM.out⟩
    · have ei : n = i := by omega
      subst ei
      have hnn : ¬ (n : Int) < (n : Int) := by omega
      have HLZ : Hid (∀ j, j < n → (Z j).length = L j) := fun j hj => (HS.out.rows j hj).2
      have ST : Hid (ApB B n G H 0 w wr A L C Z A C (yy Z 0 0)) := by
        show ApB B n G H 0 w wr A L C Z A C (yy Z 0 0)
        rw [yy_start]
        exact apB_start HS.out F.out (by have := HS.out.bel.1.size; have := HG.out; omega)
      clear HS hlt
      go_wp2
      go_loopg [6] n (fun gk v wr => ∃ (i : Nat) (D : Nat → Option Addr) (E : Nat → Nat), i ≤ n ∧ gk = n - i ∧ v = .int .i64 i ∧ ApB B n G H 0 w wr A L C Z D E (yy Z i 0))
      case atStart => exact ⟨0, A, C, Nat.zero_le _, rfl, rfl, ST.out⟩
      case round =>
        clear ST
        obtain ⟨i, D, E, hin, rfl, rfl, S⟩ := hrel
        have HS : Hid (ApB B n G H 0 w wr A L C Z D E (yy Z i 0)) := S
        clear S
        by_cases hlt : i < n
        · have hii : (i : Int) < (n : Int) := by omega
          have hLi := HL.out i hlt
          go_wp2
          go_loopg [7] 16 (fun gm v wr => ∃ (k : Nat) (D : Nat → Option Addr) (E : Nat → Nat), k ≤ 16 ∧ gm = 16 - k ∧ v = .int .i64 k ∧ ApB B n G H 0 w wr A L C Z D E (yy Z i k))
          case atStart => exact ⟨0, D, E, Nat.zero_le _, rfl, rfl, HS.out⟩
          case round =>
            clear HS
            obtain ⟨k, D, E, hk, rfl, rfl, S⟩ := hrel
            by_cases hlk : k < 16
            · have hkk : (k : Int) < 16 := by omega
              have HS : Hid (ApB B n G H 0 w wr A L C Z D E (yy Z i k)) := S
              obtain ⟨m, hm⟩ : ∃ m, (yy Z i k i).length = m := ⟨_, rfl⟩
              have hlc := S.long.cell hlt
              rw [hm] at hlc
              have hlf := S.long.frozen i
              have hm2 : m ≤ L i + 16 := by rw [← hm, yy_len, HLZ.out i hlt]; omega
              have hown : wr.ownsRow B 3 1 (.slice (D i) m (E i)) m ((yy Z i k i).map (Value.int .i64)) := by rw [← hm]; exact S.own i hlt
              have HMM : Hid ((yy Z i k i).length = m) := hm
              have hbs : B ≤ wr.heap.size := by have := S.low; have := S.long.lt; omega
              obtain ⟨x, hx⟩ : ∃ x, -(i : Int) * 1000003 = x := ⟨_, rfl⟩
              have hx1 : -5864079606991044415 ≤ x ∧ x ≤ 0 := by omega
              have hmt0 : x - (k : Int) - 1 = mt i k := by rw [← hx]; rfl
              obtain ⟨x2, hx2⟩ : ∃ x2, x - (k : Int) = x2 := ⟨_, rfl⟩
              rw [hx2] at hmt0
              have hx3 : -5864079606991044515 ≤ x2 ∧ x2 ≤ 0 := by omega
              have hx4 : -5864079606991044615 ≤ mt i k ∧ mt i k ≤ 0 := by omega
              have HGROW := fun w2 o v' => S.grow (w2 := w2) (x := mt i k) (o := o) (v' := v') hlt
              rw [hm, yy_step] at HGROW
              have HGR : Hid (∀ (w2 : World) (o : Obj) (v' : Value), w2.ownsRow B 3 1 v' (m + 1) ((yy Z i k i).map (Value.int .i64) ++ [.int .i64 (mt i k)]) → ((∃ g cap, Value.slice (D i) m (E i) = .slice (some ⟨g, 0, none⟩) m cap ∧ v' = .slice (some ⟨g, 0, none⟩) (m + 1) cap ∧ (wr.alloc o).grownBy w2 (some g)) ∨ (∃ cap, v' = .slice (some ⟨(wr.alloc o).heap.size, 0, none⟩) (m + 1) cap ∧ (wr.alloc o).grownBy w2 none)) →
                ∃ d c, v' = .slice d (m + 1) c ∧ ApB B n G H 0 w (w2.setCell ⟨H, i, none⟩ v') A L C Z (upd D i d) (upd E i c) (yy Z i (k + 1)) ∧ w2.cell? ⟨H, i, none⟩ = some (.slice (D i) m (E i)) ∧ w2.frozen? ⟨H, i, none⟩ = false) := HGROW
              clear S hm HGROW HS
              generalize yy Z i k i = Yi at *
              generalize mt i k = y at *
              go_wp2_with (at_builtin; refine wpList_append_told _ rfl (.tmp 61) (.tmp 68) 45 rfl B 3 i0 (.int .i64 0) 1 8 Try.underlying45 hi hz0 hz1 hz2 rfl (by decide) _ m _ rfl (World.ownsRow.alloc hown _) ⟨wr.heap.size, 0, none⟩ 1 1 (by decide) [.int .i64 y] rfl rfl (one_new' _ _ _) (one_cell' _) (by unfold maxLen; omega) (by omega) (by simp; omega) ?_; intro v' w2 hown' hgrow; obtain ⟨d, c, rfl, KB, hlc2, hlf2⟩ := HGR.out w2 _ _ hown' hgrow; have KBB : Hid (ApB B n G H 0 w (w2.setCell ⟨H, i, none⟩ (.slice d (m + 1) c)) A L C Z (upd D i d) (upd E i c) (yy Z i (k + 1))) := KB; clear KB hown' hgrow hlc hlf hown)
              go_roundg (16 - (k + 1))
              case measure => omega
              case rel => exact ⟨k + 1, _, _, by omega, rfl, by go_num, KBB.out⟩
            · have hkk : ¬ (k : Int) < 16 := by omega
              have ek : k = 16 := by omega
              subst ek
              rw [yy_next] at S
              have HS : Hid (ApB B n G H 0 w wr A L C Z D E (yy Z (i + 1) 0)) := S
              clear S
              go_wp2
              go_roundg (n - (i + 1))
              case measure => omega
              case rel => exact ⟨i + 1, _, _, by omega, rfl, by go_num, HS.out⟩
        · have ei : n = i := by omega
          subst ei
          have hnn : ¬ (n : Int) < (n : Int) := by omega
          clear hlt
          have T1 : Hid (∀ j, j < n → wr.cell? ⟨G, j, none⟩ = some (.slice (A j) (L j) (C j))) := fun j hj => by
            have := HS.out.tab j hj
            rw [Nat.zero_add] at this
            exact this
          have T2 : Hid (∀ j, j < n → wr.cell? ⟨H, j, none⟩ = some (.slice (D j) (L j + 16) (E j))) := fun j hj => by
            have := HS.out.long.cell hj
            rw [yy_end Z hj, List.length_append, tails_len, HLZ.out j hj] at this
            exact this
          have T3 : Hid (∀ j k, j < n → k < L j → ∃ b off, A j = some ⟨b, off, none⟩ ∧ wr.cell? ⟨b, off + k, none⟩ = some (.int .i64 (mk j k))) := fun j k hj hk => by
            rcases HS.out.lie j hj with h0 | ⟨b, off, e, hc⟩
            · have := HLZ.out j hj
              rw [h0] at this
              simp at this
              omega
            · refine ⟨b, off, e, ?_⟩
              rw [hc k (by rw [HLZ.out j hj]; exact hk), HM.out j hj k hk]
          have T4 : Hid (∀ j, j < n → ∃ g, D j = some ⟨g, 0, none⟩ ∧ (∀ k, k < L j → wr.cell? ⟨g, k, none⟩ = some (.int .i64 (mk j k))) ∧ (∀ k, k < 16 → wr.cell? ⟨g, L j + k, none⟩ = some (.int .i64 (mt j k)))) := fun j hj => by
            have hr := HS.out.own j hj
            rw [yy_end Z hj] at hr
            obtain ⟨g, hg, -, -⟩ := hr.there (by rw [List.length_append, tails_len]; omega)
            rw [hg] at hr
            refine ⟨g, hg, fun k hk => ?_, fun k hk => ?_⟩
            · rw [hr.nthCell (by rw [List.length_append, HLZ.out j hj]; omega), nth_append_left (by rw [HLZ.out j hj]; exact hk), HM.out j hj k hk]
            · rw [hr.nthCell (by rw [List.length_append, HLZ.out j hj, tails_len]; omega), ← HLZ.out j hj, nth_append_right', nth_tails hk]
          have HBEL : Hid (KeepA B n H A w wr) := HS.out.bel
          clear HS HM HLZ F
          generalize wr = w3 at *
          go_wp2
          go_loopg [8] n (fun gk v wr => ∃ (i q : Nat), i ≤ n ∧ gk = n - i ∧ v = .int .i64 i ∧ wr = w3.drewN q)
          case atStart => exact ⟨0, 0, Nat.zero_le _, rfl, rfl, rfl⟩
          case round =>
            obtain ⟨i, q, hin, rfl, rfl, rfl⟩ := hrel
            by_cases hlt : i < n
            · have hii : (i : Int) < (n : Int) := by omega
              have hLi := HL.out i hlt
              have t1 := T1.out i hlt
              have t2 := T2.out i hlt
              go_wp2
              go_loopg [9] (L i) (fun gm v wr => ∃ (k q : Nat), k ≤ L i ∧ gm = L i - k ∧ v = .int .i64 k ∧ wr = w3.drewN q)
              case atStart => exact ⟨0, q, Nat.zero_le _, rfl, rfl, rfl⟩
              case round =>
                obtain ⟨k, q, hk, rfl, rfl, rfl⟩ := hrel
                by_cases hlk : k < L i
                · have hkk : (k : Int) < (L i : Int) := by omega
                  have hkk2 : (k : Int) < (L i : Int) + 16 := by omega
                  obtain ⟨b, off, e1, c1⟩ := T3.out i k hlt hlk
                  obtain ⟨g, e2, c2, -⟩ := T4.out i hlt
                  have c3 := c2 k hlk
                  rw [e1] at t1
                  rw [e2] at t2
                  have hmk0 : (i : Int) * 1000003 + (k : Int) = mk i k := rfl
                  obtain ⟨x, hx⟩ : ∃ x, (i : Int) * 1000003 = x := ⟨_, rfl⟩
                  have hx1 : 0 ≤ x ∧ x ≤ 5864079606991044415 := by omega
                  rw [hx] at hmk0
                  have hy1 : 0 ≤ mk i k ∧ mk i k ≤ 5900000000000000000 := by rw [← hmk0]; omega
                  have hne : (mk i k != mk i k) = false := by simp
                  clear e1 e2 c2
                  generalize mk i k = y at *
                  go_wp2
                  go_roundg (L i - (k + 1))
                  case measure => omega
                  case rel => exact ⟨k + 1, q, by omega, rfl, by go_num, rfl⟩
                · have hkk : ¬ (k : Int) < (L i : Int) := by omega
                  go_wp2
                  go_loopg [10] 16 (fun gm v wr => ∃ (k q : Nat), k ≤ 16 ∧ gm = 16 - k ∧ v = .int .i64 k ∧ wr = w3.drewN q)
                  case atStart => exact ⟨0, q, Nat.zero_le _, rfl, rfl, rfl⟩
                  case round =>
                    clear hkk hlk hk
                    obtain ⟨k, q, hk, rfl, rfl, rfl⟩ := hrel
                    by_cases hlk : k < 16
                    · have hkk : (k : Int) < 16 := by omega
                      obtain ⟨g, e2, -, c2⟩ := T4.out i hlt
                      have c3 := c2 k hlk
                      rw [e2] at t2
                      obtain ⟨s, hs⟩ : ∃ s, L i + k = s := ⟨_, rfl⟩
                      rw [hs] at c3
                      have hs1 : (L i : Int) + (k : Int) = (s : Int) := by omega
                      have hs2 : (s : Int) < (L i : Int) + 16 := by omega
                      obtain ⟨x, hx⟩ : ∃ x, -(i : Int) * 1000003 = x := ⟨_, rfl⟩
                      have hx1 : -5864079606991044415 ≤ x ∧ x ≤ 0 := by omega
                      have hmt0 : x - (k : Int) - 1 = mt i k := by rw [← hx]; rfl
                      obtain ⟨x2, hx2⟩ : ∃ x2, x - (k : Int) = x2 := ⟨_, rfl⟩
                      rw [hx2] at hmt0
                      have hx3 : -5864079606991044515 ≤ x2 ∧ x2 ≤ 0 := by omega
                      have hx4 : -5864079606991044615 ≤ mt i k ∧ mt i k ≤ 0 := by omega
                      have hne : (mt i k != mt i k) = false := by simp
                      have v1 : IntKind.i64.wrap (-(i : Int)) = -(i : Int) := by rw [IntKind.wrap_i64]; omega
                      have v2 : IntKind.i64.wrap x = x := by rw [IntKind.wrap_i64]; omega
                      have v3 : IntKind.i64.wrap x2 = x2 := by rw [IntKind.wrap_i64]; omega
                      have v4 : IntKind.i64.wrap (mt i k) = mt i k := by rw [IntKind.wrap_i64]; omega
                      have v5 : IntKind.i64.wrap (s : Int) = (s : Int) := by rw [IntKind.wrap_i64]; omega
                      clear e2 c2
                      generalize mt i k = y at *
                      go_wp2
                      go_quiet (fail)
                      go_wp2
                      go_roundg (16 - (k + 1))
                      case measure => omega
                      case rel => exact ⟨k + 1, q + nq, by omega, rfl, by go_num, by simp⟩
                    · have hkk : ¬ (k : Int) < 16 := by omega
                      go_wp2
                      go_roundg (n - (i + 1))
                      case measure => omega
                      case rel => exact ⟨i + 1, q, by omega, rfl, by go_num, rfl⟩
            · have hii : ¬ (i : Int) < (n : Int) := by omega
              go_wp2
              go_ret
              exact ⟨rfl, bdrew HBEL.out.1 q, fun k h1 h2 => HBEL.out.2 k (by omega) (by omega) h2⟩
theorem apart_any (B G n cap : Nat) (A : Nat → Option Addr) (L C : Nat → Nat) (Z : Nat → List Int) (w : World) (h : Table B w G n A L C Z) :
    Calls Try.prog 38 #[.slice (some ⟨G, 0, none⟩) n cap] w fun e w' => e = .returned (.bool true) ∧ Below B w w' :=
  (apart_keeps B G n cap A L C Z w h).mono fun _ _ ⟨h1, h2, _⟩ => ⟨h1, h2⟩
end Go.Proofs.Ytancphohpedigaa
