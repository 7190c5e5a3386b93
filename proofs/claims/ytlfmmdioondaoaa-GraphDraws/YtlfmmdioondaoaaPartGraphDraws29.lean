/- Texts of one chain, laid one behind the other. -/
import Derived.Test.YtlfmmdioondaoaaPartGraphDraws28
namespace Go.Proofs.Ytlfmmdioondaoaa
open Go.ChangeShapes Go.WideShapes Go.ChangeAt Go.RowKit
theorem str_eq (x y : List UInt8) : ((str x).toList == (str y).toList) = (x == y) := by rw [gstr_list, gstr_list]
set_option maxRecDepth 100000 in
set_option maxHeartbeats 8000000 in
theorem named_any (g : GG) (a1 a2 a3 a4 : Option Addr) (c1 c2 c3 c4 : Nat) (na ni no : Nat) (x : List UInt8) (w : World) (h : GrG w a1 a2 a3 a4 g) (h1 : na ≤ g.actors.length) (h2 : ni ≤ g.ins.length) (h3 : no ≤ g.outs.length) :
    Calls Try.prog 86 #[.agg #[.string (str g.name), .slice a1 g.actors.length c1, .slice a2 g.edges.length c2, .slice a3 g.ins.length c3, .slice a4 g.outs.length c4], .int .i64 (na : Int), .int .i64 (ni : Int), .int .i64 (no : Int), .string (str x)] w fun e w' => e = .returned (.bool (namedB g na ni no x)) ∧ Below w.heap.size w w' := by
  have HG := hiddenG h
  have l1 := h.l1
  have l3 := h.l3
  have l4 := h.l4
  have naI : (na : Int) ≤ 1000000000000000 := by omega
  have niI : (ni : Int) ≤ 1000000000000000 := by omega
  have noI : (no : Int) ≤ 1000000000000000 := by omega
  have B0 := hiddenG (gbox_new w #[.string (str g.name), .slice a1 g.actors.length c1, .slice a2 g.edges.length c2, .slice a3 g.ins.length c3, .slice a4 g.outs.length c4])
  have HT : Hid (namedB g na ni no x = ((g.actors.take na).any (fun a => a.name == x) || ((g.ins.take ni).any (fun p => p.name == x) || (g.outs.take no).any (fun p => p.name == x)))) := by rfl
  clear h
  go_enter Try.func86, Try.ntmps86
  go_wp2
  go_loopg [11] na (fun gk v wr => ∃ k : Nat, k ≤ na ∧ gk = na - k ∧ v = .int .i64 (k : Int) ∧ GBox w #[.string (str g.name), .slice a1 g.actors.length c1, .slice a2 g.edges.length c2, .slice a3 g.ins.length c3, .slice a4 g.outs.length c4] wr ∧ ∀ j, j < k → ((nthA g.actors j).name == x) = false)
  case atStart => exact ⟨0, Nat.zero_le _, rfl, rfl, B0.out, fun j hj => absurd hj (Nat.not_lt_zero _)⟩
  case round =>
    clear B0
    obtain ⟨k, hk, rfl, rfl, hB, hall⟩ := hrel
    have HB := hiddenG hB
    have HAL := hiddenG hall
    have y4 : wr.cell? ⟨w.heap.size, 1, none⟩ = some (.slice a1 g.actors.length c1) := hB.1.cell rfl
    clear hB hall
    by_cases hlt : k < na
    · have hki : (k : Int) < (na : Int) := by omega
      have hkl : k < g.actors.length := by omega
      have hkI : (k : Int) < (g.actors.length : Int) := by omega
      rcases (HG.out.below HB.out.2).A with e | ⟨b, off, rfl, hc⟩
      · rw [e] at hkl; exact absurd hkl (Nat.not_lt_zero _)
      have x0 := (hc k hkl).1
      clear hc
      have HYES : Hid (((nthA g.actors k).name == x) = true → namedB g na ni no x = true) := fun e => by rw [HT.out, any_yesA hlt h1 e, Bool.true_or]
      have HNO : Hid (((nthA g.actors k).name == x) = false → ∀ j, j < k + 1 → ((nthA g.actors j).name == x) = false) := fun e j hj => by
        by_cases q : j < k
        · exact HAL.out j q
        · rw [show j = k by omega]; exact e
      generalize (nthA g.actors k).name = en at *
      have hst := str_eq en x
      obtain ⟨q1, hq1⟩ : ∃ q, (en == x) = q := ⟨_, rfl⟩
      rw [hq1] at HYES HNO hst
      clear hq1
      cases q1
      · go_wp2
        go_roundg (na - (k + 1))
        case measure => omega
        case rel => exact ⟨k + 1, by omega, rfl, by go_num, HB.out, HNO.out (by trivial)⟩
      · go_wp2
        go_ret
        exact ⟨by rw [HYES.out (by trivial)]; rfl, HB.out.2⟩
    · have hki : ¬ (k : Int) < (na : Int) := by omega
      have Z0 : Hid ((g.actors.take na).any (fun a => a.name == x) = false) := any_noA h1 (fun j hj => HAL.out j (by omega))
      clear y4 HAL hlt hk
      go_wp2
      go_loopg [12] ni (fun gk v wr => ∃ k : Nat, k ≤ ni ∧ gk = ni - k ∧ v = .int .i64 (k : Int) ∧ GBox w #[.string (str g.name), .slice a1 g.actors.length c1, .slice a2 g.edges.length c2, .slice a3 g.ins.length c3, .slice a4 g.outs.length c4] wr ∧ ∀ j, j < k → ((nthP g.ins j).name == x) = false)
      case atStart => exact ⟨0, Nat.zero_le _, rfl, rfl, HB.out, fun j hj => absurd hj (Nat.not_lt_zero _)⟩
      case round =>
        clear HB hki
        obtain ⟨k, hk, rfl, rfl, hB, hall⟩ := hrel
        have HB := hiddenG hB
        have HAL := hiddenG hall
        have y4 : wr.cell? ⟨w.heap.size, 3, none⟩ = some (.slice a3 g.ins.length c3) := hB.1.cell rfl
        clear hB hall
        by_cases hlt : k < ni
        · have hki : (k : Int) < (ni : Int) := by omega
          have hkl : k < g.ins.length := by omega
          have hkI : (k : Int) < (g.ins.length : Int) := by omega
          rcases (HG.out.below HB.out.2).I with e | ⟨b, off, rfl, hc⟩
          · rw [e] at hkl; exact absurd hkl (Nat.not_lt_zero _)
          have x0 := (hc k hkl).1
          clear hc
          have HYES : Hid (((nthP g.ins k).name == x) = true → namedB g na ni no x = true) := fun e => by rw [HT.out, Z0.out, any_yesP hlt h2 e, Bool.false_or, Bool.true_or]
          have HNO : Hid (((nthP g.ins k).name == x) = false → ∀ j, j < k + 1 → ((nthP g.ins j).name == x) = false) := fun e j hj => by
            by_cases q : j < k
            · exact HAL.out j q
            · rw [show j = k by omega]; exact e
          generalize (nthP g.ins k).name = en at *
          have hst := str_eq en x
          obtain ⟨q1, hq1⟩ : ∃ q, (en == x) = q := ⟨_, rfl⟩
          rw [hq1] at HYES HNO hst
          clear hq1
          cases q1
          · go_wp2
            go_roundg (ni - (k + 1))
            case measure => omega
            case rel => exact ⟨k + 1, by omega, rfl, by go_num, HB.out, HNO.out (by trivial)⟩
          · go_wp2
            go_ret
            exact ⟨by rw [HYES.out (by trivial)]; rfl, HB.out.2⟩
        · have hki : ¬ (k : Int) < (ni : Int) := by omega
          have Z1 : Hid ((g.ins.take ni).any (fun a => a.name == x) = false) := any_noP h2 (fun j hj => HAL.out j (by omega))
          clear y4 HAL hlt hk
          go_wp2
          go_loopg [13] no (fun gk v wr => ∃ k : Nat, k ≤ no ∧ gk = no - k ∧ v = .int .i64 (k : Int) ∧ GBox w #[.string (str g.name), .slice a1 g.actors.length c1, .slice a2 g.edges.length c2, .slice a3 g.ins.length c3, .slice a4 g.outs.length c4] wr ∧ ∀ j, j < k → ((nthP g.outs j).name == x) = false)
          case atStart => exact ⟨0, Nat.zero_le _, rfl, rfl, HB.out, fun j hj => absurd hj (Nat.not_lt_zero _)⟩
          case round =>
            clear HB hki
            obtain ⟨k, hk, rfl, rfl, hB, hall⟩ := hrel
            have HB := hiddenG hB
            have HAL := hiddenG hall
            have y4 : wr.cell? ⟨w.heap.size, 4, none⟩ = some (.slice a4 g.outs.length c4) := hB.1.cell rfl
            clear hB hall
            by_cases hlt : k < no
            · have hki : (k : Int) < (no : Int) := by omega
              have hkl : k < g.outs.length := by omega
              have hkI : (k : Int) < (g.outs.length : Int) := by omega
              rcases (HG.out.below HB.out.2).O with e | ⟨b, off, rfl, hc⟩
              · rw [e] at hkl; exact absurd hkl (Nat.not_lt_zero _)
              have x0 := (hc k hkl).1
              clear hc
              have HYES : Hid (((nthP g.outs k).name == x) = true → namedB g na ni no x = true) := fun e => by rw [HT.out, Z0.out, Z1.out, any_yesP hlt h3 e, Bool.false_or, Bool.false_or]
              have HNO : Hid (((nthP g.outs k).name == x) = false → ∀ j, j < k + 1 → ((nthP g.outs j).name == x) = false) := fun e j hj => by
                by_cases q : j < k
                · exact HAL.out j q
                · rw [show j = k by omega]; exact e
              generalize (nthP g.outs k).name = en at *
              have hst := str_eq en x
              obtain ⟨q1, hq1⟩ : ∃ q, (en == x) = q := ⟨_, rfl⟩
              rw [hq1] at HYES HNO hst
              clear hq1
              cases q1
              · go_wp2
                go_roundg (no - (k + 1))
                case measure => omega
                case rel => exact ⟨k + 1, by omega, rfl, by go_num, HB.out, HNO.out (by trivial)⟩
              · go_wp2
                go_ret
                exact ⟨by rw [HYES.out (by trivial)]; rfl, HB.out.2⟩
            · have hki : ¬ (k : Int) < (no : Int) := by omega
              have Z2 : Hid ((g.outs.take no).any (fun a => a.name == x) = false) := any_noP h3 (fun j hj => HAL.out j (by omega))
              have HP0 : Hid (namedB g na ni no x = false) := by show _ = _; rw [HT.out, Z0.out, Z1.out, Z2.out]; rfl
              go_wp2
              go_ret
              exact ⟨by rw [HP0.out]; rfl, HB.out.2⟩
/-- What pianolaref06.Of answers, by its lengths. -/
def OfV (nI nO : Nat) (er : Int) (v : Value) : Prop := ∃ p1 q1 p2 q2, v = .tuple #[.slice p1 nI q1, .slice p2 nO q2, .int .i64 er]
/-- A slice of that length. -/
def SlN (n : Nat) (v : Value) : Prop := ∃ p q, v = .slice p n q
theorem ofV_of {w w' : World} {t : Nat} {zs : List Int} {nI nO : Nat} {er : Int} {e : Ending} (h : OfEnd w (ofS t zs) e w') (h1 : (ofS t zs).1.length = nI) (h2 : (ofS t zs).2.1.length = nO) (h3 : (ofS t zs).2.2 = er) : ∃ v, e = .returned v ∧ Below w.heap.size w w' ∧ OfV nI nO er v := by
  unfold OfEnd at h
  obtain ⟨p1, q1, p2, q2, he, -, -, -, hb⟩ := h
  rw [h1, h2, h3] at he
  exact ⟨_, he, hb, p1, q1, p2, q2, rfl⟩
set_option maxRecDepth 100000 in
set_option maxHeartbeats 4000000 in
theorem rates8_any (g : GG) (a1 a2 a3 a4 : Option Addr) (c1 c2 c3 c4 : Nat) (k : Nat) (w : World) (h : GrG w a1 a2 a3 a4 g) (hk : k < g.actors.length) :
    Calls Try.prog 91 #[.agg #[.string (str g.name), .slice a1 g.actors.length c1, .slice a2 g.edges.length c2, .slice a3 g.ins.length c3, .slice a4 g.outs.length c4], .int .i64 (k : Int)] w fun e w' => e = .returned (.tuple #[.int .i64 (insN g k : Int), .int .i64 (outsN g k : Int)]) ∧ Below w.heap.size w w' := by
  have hki : (k : Int) < (g.actors.length : Int) := by omega
  have ba := (Below.refl w.heap.size w).alloc (Nat.le_refl _) (.cells #[.string (str g.name), .slice a1 g.actors.length c1, .slice a2 g.edges.length c2, .slice a3 g.ins.length c3, .slice a4 g.outs.length c4] 31)
  have BA := hiddenG ba
  have g1' := (blkA_new 31 w #[.string (str g.name), .slice a1 g.actors.length c1, .slice a2 g.edges.length c2, .slice a3 g.ins.length c3, .slice a4 g.outs.length c4]).cell (k := 1) rfl
  rcases (h.below ba).A with e | ⟨b, off, rfl, hc⟩
  · rw [e] at hk; exact absurd hk (Nat.not_lt_zero _)
  obtain ⟨-, x1', ht, xa, xc, x2', x3⟩ := hc k hk
  have HI : Hid ((ofS (nthA g.actors k).tag (nthA g.actors k).params).1.length = insN g k) := by rfl
  have HO : Hid ((ofS (nthA g.actors k).tag (nthA g.actors k).params).2.1.length = outsN g k) := by rfl
  obtain ⟨er, hE⟩ : ∃ q, (ofS (nthA g.actors k).tag (nthA g.actors k).params).2.2 = q := ⟨_, rfl⟩
  have HE := hiddenG hE
  have HAR := hiddenG x3
  have HTT := hiddenG ht
  have hni : insN g k ≤ 1024 := (of_small _ _).1
  have hno : outsN g k ≤ 1024 := (of_small _ _).2
  generalize insN g k = nI at *
  generalize outsN g k = nO at *
  generalize nthA g.actors k = E at *
  obtain ⟨en, tg, ps⟩ := E
  simp only at x1' x2' HI HO HE HAR HTT
  clear hc x3 ht ba h hE
  have OF : Hid (∀ V, Below (w.alloc (.cells #[.string (str g.name), .slice (some ⟨b, off, none⟩) g.actors.length c1, .slice a2 g.edges.length c2, .slice a3 g.ins.length c3, .slice a4 g.outs.length c4] 31)).heap.size (w.alloc (.cells #[.string (str g.name), .slice (some ⟨b, off, none⟩) g.actors.length c1, .slice a2 g.edges.length c2, .slice a3 g.ins.length c3, .slice a4 g.outs.length c4] 31)) V → Calls Try.prog 87 #[.int .u8 (tg : Int), .slice xa ps.length xc] V (OfEnd V (ofS tg ps))) := fun V hb => rof_any tg xa ps ps.length xc V HTT.out rfl (HAR.out.below hb).lies
  go_enter Try.func91, Try.ntmps91
  go_upto_region 1 with fail
  generalize w.alloc (.cells #[.string (str g.name), .slice (some ⟨b, off, none⟩) g.actors.length c1, .slice a2 g.edges.length c2, .slice a3 g.ins.length c3, .slice a4 g.outs.length c4] 31) = W0 at *
  refine wp_region_gen [] (fun d i u z => match i with
      | 0 => z = .pointer (some ⟨w.heap.size, 1, none⟩)
      | 1 => z = .slice (some ⟨b, off, none⟩) g.actors.length c1
      | 2 => z = .int .i64 (k : Int)
      | 3 => z = .pointer (some ⟨b, off + k * 3, none⟩)
      | 4 => z = .pointer (some ⟨b, off + k * 3 + 1, none⟩)
      | 5 => z = .int .u8 (tg : Int)
      | 6 => z = .pointer (some ⟨w.heap.size, 1, none⟩)
      | 7 => z = .slice (some ⟨b, off, none⟩) g.actors.length c1
      | 8 => z = .int .i64 (k : Int)
      | 9 => z = .pointer (some ⟨b, off + k * 3, none⟩)
      | 10 => z = .pointer (some ⟨b, off + k * 3 + 2, none⟩)
      | 11 => z = .slice xa ps.length xc
      | 12 => OfV nI nO er z
      | 13 => OfV nI nO er z
      | 14 => SlN nI z
      | 15 => SlN nO z
      | 16 => z = .int .i64 er
      | 17 => SlN nI z
      | 18 => SlN nO z
      | 19 => z = .int .i64 er
      | _ => True) (fun _ u => Below W0.heap.size W0 u) (by kernel_rfl) (by kernel_rfl) (by kernel_rfl) ?_ ?_ ?_ ?_ ?_ ?_ (by kernel_rfl)
  · intro d i w v w' h hb
    match i, h with
    | 0, h => exact h
    | 1, h => exact h
    | 2, h => exact h
    | 3, h => exact h
    | 4, h => exact h
    | 5, h => exact h
    | 6, h => exact h
    | 7, h => exact h
    | 8, h => exact h
    | 9, h => exact h
    | 10, h => exact h
    | 11, h => exact h
    | 12, h => exact h
    | 13, h => exact h
    | 14, h => exact h
    | 15, h => exact h
    | 16, h => exact h
    | 17, h => exact h
    | 18, h => exact h
    | 19, h => exact h
    | _ + 20, _ => trivial
  · intro d u u' h hb
    exact h.trans (hb.mono h.size)
  · exact Below.refl _ _
  · intro d i o ρ w' hm ho hf hg hC hcs hfs hfr hdep
    match i, hm, ho, hf, hg, hfr, hdep with
    | 0, _, ho, hf, hg, hfr, hdep =>
      simp only [gTA, gCZ, gSI] at ho
      subst ho
      refine ⟨fun _ => ?_, fun hw => absurd (show true = false from hw) (by decide)⟩
      have ts : ρ (.tmp 2) = .pointer (some ⟨w.heap.size, 0, none⟩) := hfr 2 (by kernel_rfl)
      simp [go_sem, ts]
      exact ⟨Below.refl _ _, rfl⟩
    | 1, _, ho, hf, hg, hfr, hdep =>
      simp only [gTA, gCZ, gCS, gSI] at ho
      subst ho
      refine ⟨fun _ => ?_, fun hw => absurd (show true = false from hw) (by decide)⟩
      have g1 := cell_keep hC g1'
      have d0 : ρ (.tmp 10) = .pointer (some ⟨w.heap.size, 1, none⟩) := hdep 0 10 (by kernel_rfl) (by kernel_rfl)
      simp [go_sem, d0, g1]
      exact ⟨Below.refl _ _, rfl⟩
    | 2, _, ho, hf, hg, hfr, hdep =>
      simp only [gTA, gCZ, gCS, gSI] at ho
      subst ho
      refine ⟨fun _ => ?_, fun hw => absurd (show true = false from hw) (by decide)⟩
      have ts : ρ (.tmp 1) = .int .i64 (k : Int) := hfr 1 (by kernel_rfl)
      simp [go_sem, ts]
      exact ⟨Below.refl _ _, rfl⟩
    | 3, _, ho, hf, hg, hfr, hdep =>
      simp only [gTA, gCZ, gCS, gSI] at ho
      subst ho
      refine ⟨fun _ => ?_, fun hw => absurd (show true = false from hw) (by decide)⟩
      have d0 : ρ (.tmp 11) = .slice (some ⟨b, off, none⟩) g.actors.length c1 := hdep 1 11 (by kernel_rfl) (by kernel_rfl)
      have d1 : ρ (.tmp 12) = .int .i64 (k : Int) := hdep 2 12 (by kernel_rfl) (by kernel_rfl)
      simp [go_sem, d0, d1, hki]
      exact ⟨Below.refl _ _, rfl⟩
    | 4, _, ho, hf, hg, hfr, hdep =>
      simp only [gTA, gCZ, gCS, gSI] at ho
      subst ho
      refine ⟨fun _ => ?_, fun hw => absurd (show true = false from hw) (by decide)⟩
      have d0 : ρ (.tmp 13) = .pointer (some ⟨b, off + k * 3, none⟩) := hdep 3 13 (by kernel_rfl) (by kernel_rfl)
      simp [go_sem, d0]
      exact ⟨Below.refl _ _, rfl⟩
    | 5, _, ho, hf, hg, hfr, hdep =>
      simp only [gTA, gCZ, gCS, gSI] at ho
      subst ho
      refine ⟨fun _ => ?_, fun hw => absurd (show true = false from hw) (by decide)⟩
      have x1 := cell_keep hC x1'
      have d0 : ρ (.tmp 14) = .pointer (some ⟨b, off + k * 3 + 1, none⟩) := hdep 4 14 (by kernel_rfl) (by kernel_rfl)
      simp [go_sem, d0, x1]
      exact ⟨Below.refl _ _, rfl⟩
    | 6, _, ho, hf, hg, hfr, hdep =>
      simp only [gTA, gCZ, gCS, gSI] at ho
      subst ho
      refine ⟨fun _ => ?_, fun hw => absurd (show true = false from hw) (by decide)⟩
      have ts : ρ (.tmp 2) = .pointer (some ⟨w.heap.size, 0, none⟩) := hfr 2 (by kernel_rfl)
      simp [go_sem, ts]
      exact ⟨Below.refl _ _, rfl⟩
    | 7, _, ho, hf, hg, hfr, hdep =>
      simp only [gTA, gCZ, gCS, gSI] at ho
      subst ho
      refine ⟨fun _ => ?_, fun hw => absurd (show true = false from hw) (by decide)⟩
      have g1 := cell_keep hC g1'
      have d0 : ρ (.tmp 16) = .pointer (some ⟨w.heap.size, 1, none⟩) := hdep 6 16 (by kernel_rfl) (by kernel_rfl)
      simp [go_sem, d0, g1]
      exact ⟨Below.refl _ _, rfl⟩
    | 8, _, ho, hf, hg, hfr, hdep =>
      simp only [gTA, gCZ, gCS, gSI] at ho
      subst ho
      refine ⟨fun _ => ?_, fun hw => absurd (show true = false from hw) (by decide)⟩
      have ts : ρ (.tmp 1) = .int .i64 (k : Int) := hfr 1 (by kernel_rfl)
      simp [go_sem, ts]
      exact ⟨Below.refl _ _, rfl⟩
    | 9, _, ho, hf, hg, hfr, hdep =>
      simp only [gTA, gCZ, gCS, gSI] at ho
      subst ho
      refine ⟨fun _ => ?_, fun hw => absurd (show true = false from hw) (by decide)⟩
      have d0 : ρ (.tmp 17) = .slice (some ⟨b, off, none⟩) g.actors.length c1 := hdep 7 17 (by kernel_rfl) (by kernel_rfl)
      have d1 : ρ (.tmp 18) = .int .i64 (k : Int) := hdep 8 18 (by kernel_rfl) (by kernel_rfl)
      simp [go_sem, d0, d1, hki]
      exact ⟨Below.refl _ _, rfl⟩
    | 10, _, ho, hf, hg, hfr, hdep =>
      simp only [gTA, gCZ, gCS, gSI] at ho
      subst ho
      refine ⟨fun _ => ?_, fun hw => absurd (show true = false from hw) (by decide)⟩
      have d0 : ρ (.tmp 19) = .pointer (some ⟨b, off + k * 3, none⟩) := hdep 9 19 (by kernel_rfl) (by kernel_rfl)
      simp [go_sem, d0]
      exact ⟨Below.refl _ _, rfl⟩
    | 11, _, ho, hf, hg, hfr, hdep =>
      simp only [gTA, gCZ, gCS, gSI] at ho
      subst ho
      refine ⟨fun _ => ?_, fun hw => absurd (show true = false from hw) (by decide)⟩
      have x2 := cell_keep hC x2'
      have d0 : ρ (.tmp 20) = .pointer (some ⟨b, off + k * 3 + 2, none⟩) := hdep 10 20 (by kernel_rfl) (by kernel_rfl)
      simp [go_sem, d0, x2]
      exact ⟨Below.refl _ _, rfl⟩
    | 12, _, ho, hf, hg, hfr, hdep =>
      simp only [gTA, gCZ, gCS, gSI] at ho
      subst ho
      refine ⟨fun _ => ?_, fun hw => absurd (show true = false from hw) (by decide)⟩
      have t0 : ρ (.tmp 15) = .int .u8 (tg : Int) := hdep 5 15 (by kernel_rfl) (by kernel_rfl)
      have t1 : ρ (.tmp 21) = .slice xa ps.length xc := hdep 11 21 (by kernel_rfl) (by kernel_rfl)
      simp [go_sem, t0, t1, hfs]
      exact ⟨rfl, (OF.out w' hC).mono fun e w'' hh => ofV_of hh HI.out HO.out HE.out⟩
    | 13, _, ho, hf, hg, hfr, hdep =>
      simp only [gTA, gCZ, gCS, gSI] at ho
      subst ho
      refine ⟨fun _ => ?_, fun hw => absurd (show true = false from hw) (by decide)⟩
      obtain ⟨p1, q1, p2, q2, eq⟩ : OfV nI nO er (ρ (.tmp 22)) := hdep 12 22 (by kernel_rfl) (by kernel_rfl)
      simp [go_sem, eq]
      exact ⟨Below.refl _ _, _, _, _, _, rfl⟩
    | 14, _, ho, hf, hg, hfr, hdep =>
      simp only [gTA, gCZ, gCS, gSI] at ho
      subst ho
      refine ⟨fun _ => ?_, fun hw => absurd (show true = false from hw) (by decide)⟩
      obtain ⟨p1, q1, p2, q2, eq⟩ : OfV nI nO er (ρ (.tmp 9)) := hdep 13 9 (by kernel_rfl) (by kernel_rfl)
      simp [go_sem, eq]
      exact ⟨Below.refl _ _, _, _, rfl⟩
    | 15, _, ho, hf, hg, hfr, hdep =>
      simp only [gTA, gCZ, gCS, gSI] at ho
      subst ho
      refine ⟨fun _ => ?_, fun hw => absurd (show true = false from hw) (by decide)⟩
      obtain ⟨p1, q1, p2, q2, eq⟩ : OfV nI nO er (ρ (.tmp 9)) := hdep 13 9 (by kernel_rfl) (by kernel_rfl)
      simp [go_sem, eq]
      exact ⟨Below.refl _ _, _, _, rfl⟩
    | 16, _, ho, hf, hg, hfr, hdep =>
      simp only [gTA, gCZ, gCS, gSI] at ho
      subst ho
      refine ⟨fun _ => ?_, fun hw => absurd (show true = false from hw) (by decide)⟩
      obtain ⟨p1, q1, p2, q2, eq⟩ : OfV nI nO er (ρ (.tmp 9)) := hdep 13 9 (by kernel_rfl) (by kernel_rfl)
      simp [go_sem, eq]
      exact ⟨Below.refl _ _, rfl⟩
    | 17, _, ho, hf, hg, hfr, hdep =>
      simp only [gTA, gCZ, gCS, gSI] at ho
      subst ho
      refine ⟨fun _ => ?_, fun hw => absurd (show true = false from hw) (by decide)⟩
      obtain ⟨p1, q1, eq⟩ : SlN nI (ρ (.tmp 23)) := hdep 14 23 (by kernel_rfl) (by kernel_rfl)
      simp [go_sem, eq]
      exact ⟨Below.refl _ _, _, _, rfl⟩
    | 18, _, ho, hf, hg, hfr, hdep =>
      simp only [gTA, gCZ, gCS, gSI] at ho
      subst ho
      refine ⟨fun _ => ?_, fun hw => absurd (show true = false from hw) (by decide)⟩
      obtain ⟨p1, q1, eq⟩ : SlN nO (ρ (.tmp 24)) := hdep 15 24 (by kernel_rfl) (by kernel_rfl)
      simp [go_sem, eq]
      exact ⟨Below.refl _ _, _, _, rfl⟩
    | 19, _, ho, hf, hg, hfr, hdep =>
      simp only [gTA, gCZ, gCS, gSI] at ho
      subst ho
      refine ⟨fun _ => ?_, fun hw => absurd (show true = false from hw) (by decide)⟩
      have d0 : ρ (.tmp 25) = .int .i64 er := hdep 16 25 (by kernel_rfl) (by kernel_rfl)
      simp [go_sem, d0]
      exact ⟨Below.refl _ _, rfl⟩
    | n + 20, _, ho, _, _, _, _ => simp at ho
  · intro d i o ρ w' hm ho h0 hf hg hC hcs hfs hfr hdep
    exact absurd hm (by simp)
  · intro V w9 hC9 hS
    have e0 : V 0 = .pointer (some ⟨w.heap.size, 1, none⟩) := hS 0 (by decide) (by intro h; cases h)
    have e1 : V 1 = .slice (some ⟨b, off, none⟩) g.actors.length c1 := hS 1 (by decide) (by intro h; cases h)
    have e2 : V 2 = .int .i64 (k : Int) := hS 2 (by decide) (by intro h; cases h)
    have e3 : V 3 = .pointer (some ⟨b, off + k * 3, none⟩) := hS 3 (by decide) (by intro h; cases h)
    have e4 : V 4 = .pointer (some ⟨b, off + k * 3 + 1, none⟩) := hS 4 (by decide) (by intro h; cases h)
    have e5 : V 5 = .int .u8 (tg : Int) := hS 5 (by decide) (by intro h; cases h)
    have e6 : V 6 = .pointer (some ⟨w.heap.size, 1, none⟩) := hS 6 (by decide) (by intro h; cases h)
    have e7 : V 7 = .slice (some ⟨b, off, none⟩) g.actors.length c1 := hS 7 (by decide) (by intro h; cases h)
    have e8 : V 8 = .int .i64 (k : Int) := hS 8 (by decide) (by intro h; cases h)
    have e9 : V 9 = .pointer (some ⟨b, off + k * 3, none⟩) := hS 9 (by decide) (by intro h; cases h)
    have e10 : V 10 = .pointer (some ⟨b, off + k * 3 + 2, none⟩) := hS 10 (by decide) (by intro h; cases h)
    have e11 : V 11 = .slice xa ps.length xc := hS 11 (by decide) (by intro h; cases h)
    obtain ⟨pa12, pb12, pc12, pd12, e12⟩ : OfV nI nO er (V 12) := hS 12 (by decide) (by intro h; cases h)
    obtain ⟨pa13, pb13, pc13, pd13, e13⟩ : OfV nI nO er (V 13) := hS 13 (by decide) (by intro h; cases h)
    obtain ⟨pa14, pb14, e14⟩ : SlN nI (V 14) := hS 14 (by decide) (by intro h; cases h)
    obtain ⟨pa15, pb15, e15⟩ : SlN nO (V 15) := hS 15 (by decide) (by intro h; cases h)
    have e16 : V 16 = .int .i64 er := hS 16 (by decide) (by intro h; cases h)
    obtain ⟨pa17, pb17, e17⟩ : SlN nI (V 17) := hS 17 (by decide) (by intro h; cases h)
    obtain ⟨pa18, pb18, e18⟩ : SlN nO (V 18) := hS 18 (by decide) (by intro h; cases h)
    have e19 : V 19 = .int .i64 er := hS 19 (by decide) (by intro h; cases h)
    simp only [puts, e0, e1, e2, e3, e4, e5, e6, e7, e8, e9, e10, e11, e12, e13, e14, e15, e16, e17, e18, e19]
    simp only [Act.put, List.setIfInBounds_toArray, List.set_cons_zero, List.set_cons_succ]
    clear hS e0 e1 e2 e3 e4 e5 e6 e7 e8 e9 e10 e11 e12 e13 e14 e15 e16 e17 e18 e19
    have B9 := hiddenG (BA.out.trans (hC9.mono BA.out.size))
    clear hC9 OF
    go_wp2
    refine bodyPost_ret (v := .tuple #[.int .i64 (nI : Int), .int .i64 (nO : Int)]) (by simp [results, Try.results91, go_sem]) rfl ?_
    exact ⟨rfl, B9.out⟩
set_option maxRecDepth 100000 in
set_option maxHeartbeats 4000000 in
theorem end8_any (g : GG) (a1 a2 a3 a4 : Option Addr) (c1 c2 c3 c4 : Nat) (ac po : Int) (ot tk : Bool) (w : World) (h : GrG w a1 a2 a3 a4 g) :
    Calls Try.prog 88 #[.agg #[.string (str g.name), .slice a1 g.actors.length c1, .slice a2 g.edges.length c2, .slice a3 g.ins.length c3, .slice a4 g.outs.length c4], .int .i64 ac, .int .i64 po, .bool ot, .bool tk] w fun e w' => e = .returned (.int .i64 (endC g ac po (if ot = true then outsN g ac.toNat else insN g ac.toNat) tk)) ∧ Below w.heap.size w w' := by
  have ba := (Below.refl w.heap.size w).alloc (Nat.le_refl _) (.cells #[.string (str g.name), .slice a1 g.actors.length c1, .slice a2 g.edges.length c2, .slice a3 g.ins.length c3, .slice a4 g.outs.length c4] 31)
  have BA := hiddenG ba
  have X0 := blkA_new 31 w #[.string (str g.name), .slice a1 g.actors.length c1, .slice a2 g.edges.length c2, .slice a3 g.ins.length c3, .slice a4 g.outs.length c4]
  have y0 := X0.cell (k := 0) rfl
  have y1 := X0.cell (k := 1) rfl
  have y2 := X0.cell (k := 2) rfl
  have y3 := X0.cell (k := 3) rfl
  have y4 := X0.cell (k := 4) rfl
  have HG := hiddenG (h.below ba)
  have l1 := h.l1
  have n1 : (g.actors.length : Int) ≤ 1000000000000000 := by omega
  clear ba h X0
  unfold endC
  by_cases h1 : ac < 0 ∨ (g.actors.length : Int) ≤ ac
  · rw [if_pos h1]
    by_cases h2 : ac < 0
    · go_enter Try.func88, Try.ntmps88
      go_wp2
      go_ret
      exact ⟨rfl, BA.out⟩
    · have h3 : ac ≥ (g.actors.length : Int) := by omega
      go_enter Try.func88, Try.ntmps88
      go_wp2
      go_ret
      exact ⟨rfl, BA.out⟩
  · rw [if_neg h1]
    have h2 : ¬ ac < 0 := by omega
    have h3 : ¬ ac ≥ (g.actors.length : Int) := by omega
    obtain ⟨k, rfl⟩ : ∃ k : Nat, ac = (k : Int) := ⟨ac.toNat, by omega⟩
    have hk : k < g.actors.length := by omega
    have RT := hiddenG (rates8_any g a1 a2 a3 a4 c1 c2 c3 c4 k _ HG.out hk)
    rw [Int.toNat_natCast]
    have hni : insN g k ≤ 1024 := (of_small _ _).1
    have hno : outsN g k ≤ 1024 := (of_small _ _).2
    generalize insN g k = nI at *
    generalize outsN g k = nO at *
    clear h1
    obtain ⟨n, hn, hne⟩ : ∃ n, (if ot = true then nO else nI) = n ∧ n ≤ 1024 := by cases ot <;> exact ⟨_, rfl, by simp; omega⟩
    rw [hn]
    have nI9 : (n : Int) ≤ 1024 := by omega
    have HN := hiddenG hn
    clear hn
    by_cases h4 : po < 0 ∨ (n : Int) ≤ po
    · rw [if_pos h4]
      go_enter Try.func88, Try.ntmps88
      go_upto_region 1 with fail
      generalize w.alloc (.cells #[.string (str g.name), .slice a1 g.actors.length c1, .slice a2 g.edges.length c2, .slice a3 g.ins.length c3, .slice a4 g.outs.length c4] 31) = W0 at *
      cases ot
      all_goals
        have hn := HN.out
        simp only [if_true, if_false, Bool.false_eq_true] at hn
        subst hn
        by_cases h5 : po < 0
        · go_wp2_with (go_at_call 91; (with_reducible refine RT.out.mono ?_); rintro e w1 ⟨rfl, b1⟩; have B1 := hiddenG b1; clear b1)
          go_ret
          exact ⟨rfl, BA.out.trans (B1.out.mono BA.out.size)⟩
        · have h6 := h4.resolve_left h5
          go_wp2_with (go_at_call 91; (with_reducible refine RT.out.mono ?_); rintro e w1 ⟨rfl, b1⟩; have B1 := hiddenG b1; clear b1)
          go_ret
          exact ⟨rfl, BA.out.trans (B1.out.mono BA.out.size)⟩
    · rw [if_neg h4]
      have h5 : ¬ po < 0 := by omega
      have h6 : ¬ (n : Int) ≤ po := by omega
      clear h4
      go_enter Try.func88, Try.ntmps88
      go_upto_region 1 with fail
      generalize w.alloc (.cells #[.string (str g.name), .slice a1 g.actors.length c1, .slice a2 g.edges.length c2, .slice a3 g.ins.length c3, .slice a4 g.outs.length c4] 31) = W0 at *
      cases ot
      all_goals
        have hn := HN.out
        simp only [if_true, if_false, Bool.false_eq_true] at hn
        subst hn
        cases tk
        all_goals
          go_wp2_with (go_at_call 91; (with_reducible refine RT.out.mono ?_); rintro e w1 ⟨rfl, b1⟩; have B1 := hiddenG b1; clear b1)
          go_ret
          exact ⟨rfl, BA.out.trans (B1.out.mono BA.out.size)⟩
set_option maxRecDepth 100000 in
set_option maxHeartbeats 4000000 in
theorem actor8_any (g : GG) (a1 a2 a3 a4 : Option Addr) (c1 c2 c3 c4 : Nat) (k : Nat) (w : World) (h : GrG w a1 a2 a3 a4 g) (hk : k < g.actors.length) :
    Calls Try.prog 69 #[.agg #[.string (str g.name), .slice a1 g.actors.length c1, .slice a2 g.edges.length c2, .slice a3 g.ins.length c3, .slice a4 g.outs.length c4], .int .i64 (k : Int)] w fun e w' => e = .returned (.int .i64 (actorC g k)) ∧ Below w.heap.size w w' := by
  have hki : (k : Int) < (g.actors.length : Int) := by omega
  have l1 := h.l1
  have n1 : (g.actors.length : Int) ≤ 1000000000000000 := by omega
  have ba := (Below.refl w.heap.size w).alloc (Nat.le_refl _) (.cells #[.string (str g.name), .slice a1 g.actors.length c1, .slice a2 g.edges.length c2, .slice a3 g.ins.length c3, .slice a4 g.outs.length c4] 31)
  have B0 := hiddenG (gbox_new w #[.string (str g.name), .slice a1 g.actors.length c1, .slice a2 g.edges.length c2, .slice a3 g.ins.length c3, .slice a4 g.outs.length c4])
  have HG := hiddenG h
  have NM : Hid (∀ U, Below w.heap.size w U → Calls Try.prog 86 #[.agg #[.string (str g.name), .slice a1 g.actors.length c1, .slice a2 g.edges.length c2, .slice a3 g.ins.length c3, .slice a4 g.outs.length c4], .int .i64 (k : Int), .int .i64 0, .int .i64 0, .string (str (nthA g.actors k).name)] U fun e w' => e = .returned (.bool (namedB g k 0 0 (nthA g.actors k).name)) ∧ Below U.heap.size U w') := fun U hb => named_any g a1 a2 a3 a4 c1 c2 c3 c4 k 0 0 _ U (HG.out.below hb) (by omega) (Nat.zero_le _) (Nat.zero_le _)
  have RN : Hid (∀ U, Calls Try.prog 67 #[.string (str (nthA g.actors k).name)] U fun e w' => e = .returned (.bool (nameB (nthA g.actors k).name)) ∧ U = w') := fun U => rname_any _ U
  have HC : Hid (actorC g k = if nameB (nthA g.actors k).name = false then 82 else if namedB g k 0 0 (nthA g.actors k).name = true then 83 else (ofS (nthA g.actors k).tag (nthA g.actors k).params).2.2) := by rfl
  rcases (h.below ba).A with e | ⟨b, off, rfl, hc⟩
  · rw [e] at hk; exact absurd hk (Nat.not_lt_zero _)
  obtain ⟨x0, x1, ht, xa, xc, x2, x3⟩ := hc k hk
  have y1 := (blkA_new 31 w #[.string (str g.name), .slice (some ⟨b, off, none⟩) g.actors.length c1, .slice a2 g.edges.length c2, .slice a3 g.ins.length c3, .slice a4 g.outs.length c4]).cell (k := 1) rfl
  have HAR := hiddenG x3
  have HTT := hiddenG ht
  clear hc x3 ht ba h
  have hcd : ∃ er, (ofS (nthA g.actors k).tag (nthA g.actors k).params).2.2 = er := ⟨_, rfl⟩
  obtain ⟨er, hE⟩ := hcd
  have HE := hiddenG hE
  rw [hE] at HC
  generalize namedB g k 0 0 (nthA g.actors k).name = q2 at *
  generalize nthA g.actors k = E at *
  obtain ⟨en, tg, ps⟩ := E
  simp only at x0 x1 x2 HE HAR HTT NM RN HC hE
  generalize nameB en = q1 at *
  clear hE
  generalize hW : w.alloc (.cells #[.string (str g.name), .slice (some ⟨b, off, none⟩) g.actors.length c1, .slice a2 g.edges.length c2, .slice a3 g.ins.length c3, .slice a4 g.outs.length c4] 31) = W0 at *
  have OF : Hid (∀ V, Below W0.heap.size W0 V → Calls Try.prog 87 #[.int .u8 (tg : Int), .slice xa ps.length xc] V (OfEnd V (ofS tg ps))) := fun V hb => rof_any tg xa ps ps.length xc V HTT.out rfl (HAR.out.below hb).lies
  have bv := (Below.refl W0.heap.size W0).alloc (Nat.le_refl _) (.cells #[.string (str en), .int .u8 (tg : Int), .slice xa ps.length xc] 59)
  have BX := hiddenG (blkA_new 59 W0 #[.string (str en), .int .u8 (tg : Int), .slice xa ps.length xc])
  have GB := hiddenG (B0.out.1.below bv)
  have BB := hiddenG (B0.out.2.trans (bv.mono B0.out.2.size))
  have BV := hiddenG bv
  have z0 := BX.out.cell (k := 0) rfl
  have z1 := BX.out.cell (k := 1) rfl
  have z2 := BX.out.cell (k := 2) rfl
  clear bv
  subst hW
  go_enter Try.func69, Try.ntmps69
  go_upto_region 1 with fail
  generalize w.alloc (.cells #[.string (str g.name), .slice (some ⟨b, off, none⟩) g.actors.length c1, .slice a2 g.edges.length c2, .slice a3 g.ins.length c3, .slice a4 g.outs.length c4] 31) = W0 at *
  go_upto_region 2 with fail
  generalize W0.alloc (.cells #[.string (str en), .int .u8 (tg : Int), .slice xa ps.length xc] 59) = V at *
  have g0 : V.cell? ⟨w.heap.size, 0, none⟩ = some (.string (str g.name)) := GB.out.cell rfl
  have g1 : V.cell? ⟨w.heap.size, 1, none⟩ = some (.slice (some ⟨b, off, none⟩) g.actors.length c1) := GB.out.cell rfl
  have g2 : V.cell? ⟨w.heap.size, 2, none⟩ = some (.slice a2 g.edges.length c2) := GB.out.cell rfl
  have g3 : V.cell? ⟨w.heap.size, 3, none⟩ = some (.slice a3 g.ins.length c3) := GB.out.cell rfl
  have g4 : V.cell? ⟨w.heap.size, 4, none⟩ = some (.slice a4 g.outs.length c4) := GB.out.cell rfl
  cases q1
  · go_wp2_with (go_at_call 67; (with_reducible refine (RN.out _).mono ?_); rintro e w' ⟨rfl, rfl⟩)
    go_ret
    exact ⟨by rw [HC.out]; rfl, BB.out⟩
  · cases q2
    · go_wp2_with (first
        | (go_at_call 87; (with_reducible refine (OF.out _ (BV.out.trans (B2.out.mono BV.out.size))).mono ?_); intro e w3 hh; obtain ⟨v3, rfl, b3, p1, q1, p2, q2, rfl⟩ := ofV_of hh rfl rfl HE.out; have B3 := hiddenG b3; clear hh b3)
        | (go_at_call 86; (with_reducible refine (NM.out _ BB.out).mono ?_); rintro e w2 ⟨rfl, b2⟩; have B2 := hiddenG b2; have z1 := cell_keep b2 z1; have z2 := cell_keep b2 z2; clear b2)
        | (go_at_call 67; (with_reducible refine (RN.out _).mono ?_); rintro e w' ⟨rfl, rfl⟩))
      go_ret
      have b2 := BB.out.trans (B2.out.mono BB.out.size)
      exact ⟨by rw [HC.out]; rfl, b2.trans (B3.out.mono b2.size)⟩
    · go_wp2_with (first
        | (go_at_call 86; (with_reducible refine (NM.out _ BB.out).mono ?_); rintro e w2 ⟨rfl, b2⟩; have B2 := hiddenG b2; clear b2)
        | (go_at_call 67; (with_reducible refine (RN.out _).mono ?_); rintro e w' ⟨rfl, rfl⟩))
      go_ret
      exact ⟨by rw [HC.out]; rfl, BB.out.trans (B2.out.mono BB.out.size)⟩
set_option maxRecDepth 100000 in
set_option maxHeartbeats 8000000 in
theorem edge8_any (g : GG) (a1 a2 a3 a4 : Option Addr) (c1 c2 c3 c4 : Nat) (k : Nat) (w : World) (h : GrG w a1 a2 a3 a4 g) (hk : k < g.edges.length) :
    Calls Try.prog 70 #[.agg #[.string (str g.name), .slice a1 g.actors.length c1, .slice a2 g.edges.length c2, .slice a3 g.ins.length c3, .slice a4 g.outs.length c4], .int .i64 (k : Int)] w fun e w' => e = .returned (.tuple #[.int .i64 (edgeC g k).1, .int .i64 ((edgeC g k).2 : Int)]) ∧ Below w.heap.size w w' := by
  have hki : (k : Int) < (g.edges.length : Int) := by omega
  have l2 := h.l2
  have n2 : (g.edges.length : Int) ≤ 1000000000000000 := by omega
  have ba := (Below.refl w.heap.size w).alloc (Nat.le_refl _) (.cells #[.string (str g.name), .slice a1 g.actors.length c1, .slice a2 g.edges.length c2, .slice a3 g.ins.length c3, .slice a4 g.outs.length c4] 31)
  have HG := hiddenG h
  have EN : Hid (∀ U (ac po : Int) (ot tk : Bool), Below w.heap.size w U → Calls Try.prog 88 #[.agg #[.string (str g.name), .slice a1 g.actors.length c1, .slice a2 g.edges.length c2, .slice a3 g.ins.length c3, .slice a4 g.outs.length c4], .int .i64 ac, .int .i64 po, .bool ot, .bool tk] U fun e w' => e = .returned (.int .i64 (endC g ac po (if ot = true then outsN g ac.toNat else insN g ac.toNat) tk)) ∧ Below U.heap.size U w') := fun U ac po ot tk hb => end8_any g a1 a2 a3 a4 c1 c2 c3 c4 ac po ot tk U (HG.out.below hb)
  have OT : Hid (∀ U (ac po : Int), Below w.heap.size w U → Calls Try.prog 89 #[.agg #[.string (str g.name), .slice a1 g.actors.length c1, .slice a2 g.edges.length c2, .slice a3 g.ins.length c3, .slice a4 g.outs.length c4], .int .i64 (k : Int), .int .i64 0, .int .i64 ac, .int .i64 po] U fun e w' => e = .returned (.bool (outTk g k 0 ac po)) ∧ Below U.heap.size U w') := fun U ac po hb => outTaken_any g a1 a2 a3 a4 c1 c2 c3 c4 k 0 ac po U (HG.out.below hb) (by omega) (Nat.zero_le _)
  have IT : Hid (∀ U (ac po : Int), Below w.heap.size w U → Calls Try.prog 90 #[.agg #[.string (str g.name), .slice a1 g.actors.length c1, .slice a2 g.edges.length c2, .slice a3 g.ins.length c3, .slice a4 g.outs.length c4], .int .i64 (k : Int), .int .i64 0, .int .i64 ac, .int .i64 po] U fun e w' => e = .returned (.bool (inTk g k 0 ac po)) ∧ Below U.heap.size U w') := fun U ac po hb => inTaken_any g a1 a2 a3 a4 c1 c2 c3 c4 k 0 ac po U (HG.out.below hb) (by omega) (Nat.zero_le _)
  have HC : Hid (edgeC g k = if outEnd g k 0 (nthE g.edges k).f (nthE g.edges k).fp ≠ 0 then (outEnd g k 0 (nthE g.edges k).f (nthE g.edges k).fp, 1) else if inEnd g k 0 (nthE g.edges k).t (nthE g.edges k).tp ≠ 0 then (inEnd g k 0 (nthE g.edges k).t (nthE g.edges k).tp, 2) else if 256 < (nthE g.edges k).start.length then (88, 0) else (0, 0)) := by rfl
  have B0 := hiddenG (gbox_new w #[.string (str g.name), .slice a1 g.actors.length c1, .slice a2 g.edges.length c2, .slice a3 g.ins.length c3, .slice a4 g.outs.length c4])
  have y2 := B0.out.1.cell (k := 2) rfl
  obtain ⟨b, off, ha2, hc⟩ : ∃ b off, a2 = some ⟨b, off, none⟩ ∧ ∀ j, j < g.edges.length → _ := by
    rcases (h.below ba).E with e | q
    · rw [e] at hk; exact absurd hk (Nat.not_lt_zero _)
    · exact q
  obtain ⟨x0, x1, x2, x3, xa, xc, x4, x5⟩ := hc k hk
  rw [ha2] at y2
  have hsl := x5.reach
  clear hc x5 ba h
  generalize nthE g.edges k = E at *
  obtain ⟨ef, efp, et, etp, es⟩ := E
  simp only at x0 x1 x2 x3 x4 HC hsl
  have hes : (es.length : Int) ≤ 140737488351232 := by omega
  have OT1 : Hid (∀ U, Below w.heap.size w U → Calls Try.prog 89 #[.agg #[.string (str g.name), .slice a1 g.actors.length c1, .slice a2 g.edges.length c2, .slice a3 g.ins.length c3, .slice a4 g.outs.length c4], .int .i64 (k : Int), .int .i64 0, .int .i64 ef, .int .i64 efp] U fun e w' => e = .returned (.bool (outTk g k 0 ef efp)) ∧ Below U.heap.size U w') := fun U hb => OT.out U ef efp hb
  have IT1 : Hid (∀ U, Below w.heap.size w U → Calls Try.prog 90 #[.agg #[.string (str g.name), .slice a1 g.actors.length c1, .slice a2 g.edges.length c2, .slice a3 g.ins.length c3, .slice a4 g.outs.length c4], .int .i64 (k : Int), .int .i64 0, .int .i64 et, .int .i64 etp] U fun e w' => e = .returned (.bool (inTk g k 0 et etp)) ∧ Below U.heap.size U w') := fun U hb => IT.out U et etp hb
  have EO : Hid (∀ U, Below w.heap.size w U → Calls Try.prog 88 #[.agg #[.string (str g.name), .slice a1 g.actors.length c1, .slice a2 g.edges.length c2, .slice a3 g.ins.length c3, .slice a4 g.outs.length c4], .int .i64 ef, .int .i64 efp, .bool true, .bool (outTk g k 0 ef efp)] U fun e w' => e = .returned (.int .i64 (outEnd g k 0 ef efp)) ∧ Below U.heap.size U w') := fun U hb => EN.out U ef efp true _ hb
  have EI : Hid (∀ U, Below w.heap.size w U → Calls Try.prog 88 #[.agg #[.string (str g.name), .slice a1 g.actors.length c1, .slice a2 g.edges.length c2, .slice a3 g.ins.length c3, .slice a4 g.outs.length c4], .int .i64 et, .int .i64 etp, .bool false, .bool (inTk g k 0 et etp)] U fun e w' => e = .returned (.int .i64 (inEnd g k 0 et etp)) ∧ Below U.heap.size U w') := fun U hb => EN.out U et etp false _ hb
  generalize outTk g k 0 ef efp = tk1 at *
  generalize inTk g k 0 et etp = tk2 at *
  generalize outEnd g k 0 ef efp = oe at *
  generalize inEnd g k 0 et etp = ie at *
  clear EN OT IT
  have bv := B0.out.2.trans (((Below.refl (w.alloc (.cells #[.string (str g.name), .slice a1 g.actors.length c1, .slice a2 g.edges.length c2, .slice a3 g.ins.length c3, .slice a4 g.outs.length c4] 31)).heap.size (w.alloc (.cells #[.string (str g.name), .slice a1 g.actors.length c1, .slice a2 g.edges.length c2, .slice a3 g.ins.length c3, .slice a4 g.outs.length c4] 31))).alloc (Nat.le_refl _) (.cells #[.int .i64 ef, .int .i64 efp, .int .i64 et, .int .i64 etp, .slice xa es.length xc] 54)).mono B0.out.2.size)
  have GB := hiddenG (B0.out.1.below ((Below.refl (w.alloc (.cells #[.string (str g.name), .slice a1 g.actors.length c1, .slice a2 g.edges.length c2, .slice a3 g.ins.length c3, .slice a4 g.outs.length c4] 31)).heap.size (w.alloc (.cells #[.string (str g.name), .slice a1 g.actors.length c1, .slice a2 g.edges.length c2, .slice a3 g.ins.length c3, .slice a4 g.outs.length c4] 31))).alloc (Nat.le_refl _) (.cells #[.int .i64 ef, .int .i64 efp, .int .i64 et, .int .i64 etp, .slice xa es.length xc] 54)))
  have BX : Hid (BlkA 54 (w.heap.size + 1) ((w.alloc (.cells #[.string (str g.name), .slice a1 g.actors.length c1, .slice a2 g.edges.length c2, .slice a3 g.ins.length c3, .slice a4 g.outs.length c4] 31)).alloc (.cells #[.int .i64 ef, .int .i64 efp, .int .i64 et, .int .i64 etp, .slice xa es.length xc] 54)) #[.int .i64 ef, .int .i64 efp, .int .i64 et, .int .i64 etp, .slice xa es.length xc]) := by
    have q := blkA_new 54 (w.alloc (.cells #[.string (str g.name), .slice a1 g.actors.length c1, .slice a2 g.edges.length c2, .slice a3 g.ins.length c3, .slice a4 g.outs.length c4] 31)) #[.int .i64 ef, .int .i64 efp, .int .i64 et, .int .i64 etp, .slice xa es.length xc]
    rw [World.size_alloc] at q
    exact q
  have BV := hiddenG bv
  clear bv
  subst ha2
  go_enter Try.func70, Try.ntmps70
  go_upto_region 2 with fail
  generalize (w.alloc (.cells #[.string (str g.name), .slice a1 g.actors.length c1, .slice (some ⟨b, off, none⟩) g.edges.length c2, .slice a3 g.ins.length c3, .slice a4 g.outs.length c4] 31)).alloc (.cells #[.int .i64 ef, .int .i64 efp, .int .i64 et, .int .i64 etp, .slice xa es.length xc] 54) = V at *
  have gx0 : V.cell? ⟨w.heap.size, 0, none⟩ = some (.string (str g.name)) := (GB.out).cell rfl
  have gx1 : V.cell? ⟨w.heap.size, 1, none⟩ = some (.slice a1 g.actors.length c1) := (GB.out).cell rfl
  have gx2 : V.cell? ⟨w.heap.size, 2, none⟩ = some (.slice (some ⟨b, off, none⟩) g.edges.length c2) := (GB.out).cell rfl
  have gx3 : V.cell? ⟨w.heap.size, 3, none⟩ = some (.slice a3 g.ins.length c3) := (GB.out).cell rfl
  have gx4 : V.cell? ⟨w.heap.size, 4, none⟩ = some (.slice a4 g.outs.length c4) := (GB.out).cell rfl
  have bb0 := BX.out.cell (k := 0) rfl
  have bb1 := BX.out.cell (k := 1) rfl
  have bb2 := BX.out.cell (k := 2) rfl
  have bb3 := BX.out.cell (k := 3) rfl
  have bb4 := BX.out.cell (k := 4) rfl
  clear x0 x1 x2 x3 x4 y2
  have OTV : Hid (∀ U, Below V.heap.size V U → Calls Try.prog 89 #[.agg #[.string (str g.name), .slice a1 g.actors.length c1, .slice (some ⟨b, off, none⟩) g.edges.length c2, .slice a3 g.ins.length c3, .slice a4 g.outs.length c4], .int .i64 (k : Int), .int .i64 0, .int .i64 ef, .int .i64 efp] U fun e w' => e = .returned (.bool tk1) ∧ Below U.heap.size U w') := fun U hb => OT1.out U (BV.out.trans (hb.mono BV.out.size))
  have EOV : Hid (∀ U, Below V.heap.size V U → Calls Try.prog 88 #[.agg #[.string (str g.name), .slice a1 g.actors.length c1, .slice (some ⟨b, off, none⟩) g.edges.length c2, .slice a3 g.ins.length c3, .slice a4 g.outs.length c4], .int .i64 ef, .int .i64 efp, .bool true, .bool tk1] U fun e w' => e = .returned (.int .i64 oe) ∧ Below U.heap.size U w') := fun U hb => EO.out U (BV.out.trans (hb.mono BV.out.size))
  by_cases h1 : oe = 0
  · subst h1
    refine wp_region_said 13 (fun i u v => match i with
        | 0 => v = .agg #[.string (str g.name), .slice a1 g.actors.length c1, .slice (some ⟨b, off, none⟩) g.edges.length c2, .slice a3 g.ins.length c3, .slice a4 g.outs.length c4]
        | 1 => v = .pointer (some ⟨w.heap.size + 1, 0, none⟩)
        | 2 => v = .int .i64 ef
        | 3 => v = .pointer (some ⟨w.heap.size + 1, 1, none⟩)
        | 4 => v = .int .i64 efp
        | 5 => v = .agg #[.string (str g.name), .slice a1 g.actors.length c1, .slice (some ⟨b, off, none⟩) g.edges.length c2, .slice a3 g.ins.length c3, .slice a4 g.outs.length c4]
        | 6 => v = .int .i64 (k : Int)
        | 7 => v = .pointer (some ⟨w.heap.size + 1, 0, none⟩)
        | 8 => v = .int .i64 ef
        | 9 => v = .pointer (some ⟨w.heap.size + 1, 1, none⟩)
        | 10 => v = .int .i64 efp
        | 11 => v = .bool tk1
        | 12 => v = .int .i64 0
        | _ => True) (by kernel_rfl) (by kernel_rfl) (by kernel_rfl) (by kernel_rfl) ?_ ?_ ?_
    · intro i w v w' h hb
      match i, h with
      | 0, h => exact h
      | 1, h => exact h
      | 2, h => exact h
      | 3, h => exact h
      | 4, h => exact h
      | 5, h => exact h
      | 6, h => exact h
      | 7, h => exact h
      | 8, h => exact h
      | 9, h => exact h
      | 10, h => exact h
      | 11, h => exact h
      | 12, h => exact h
      | _ + 13, _ => trivial
    · intro i o ρ w' hi ho hb hc hf hfr hdep
      have g0 := cell_keep hb gx0
      have g1 := cell_keep hb gx1
      have g2 := cell_keep hb gx2
      have g3 := cell_keep hb gx3
      have g4 := cell_keep hb gx4
      have b0 := cell_keep hb bb0
      have b1 := cell_keep hb bb1
      have b2 := cell_keep hb bb2
      have b3 := cell_keep hb bb3
      match i, hi with
      | 0, _ =>
        simp only [gTA, gCZ, gSI] at ho
        subst ho
        have ts : ρ (.tmp 2) = .pointer (some ⟨w.heap.size, 0, none⟩) := hfr 2 (by kernel_rfl)
        simp [go_sem, ts, g0, g1, g2, g3, g4]
        exact ⟨Below.refl _ _, rfl⟩
      | 1, _ =>
        simp only [gTA, gCZ, gCS, gSI] at ho
        subst ho
        have ts : ρ (.tmp 6) = .pointer (some ⟨w.heap.size + 1, 0, none⟩) := hfr 6 (by kernel_rfl)
        simp [go_sem, ts]
        exact ⟨Below.refl _ _, rfl⟩
      | 2, _ =>
        simp only [gTA, gCZ, gCS, gSI] at ho
        subst ho
        have ts : ρ (.tmp 14) = .pointer (some ⟨w.heap.size + 1, 0, none⟩) := hdep 1 14 (by kernel_rfl) (by kernel_rfl)
        simp [go_sem, ts, b0]
        exact ⟨Below.refl _ _, rfl⟩
      | 3, _ =>
        simp only [gTA, gCZ, gCS, gSI] at ho
        subst ho
        have ts : ρ (.tmp 6) = .pointer (some ⟨w.heap.size + 1, 0, none⟩) := hfr 6 (by kernel_rfl)
        simp [go_sem, ts]
        exact ⟨Below.refl _ _, rfl⟩
      | 4, _ =>
        simp only [gTA, gCZ, gCS, gSI] at ho
        subst ho
        have ts : ρ (.tmp 16) = .pointer (some ⟨w.heap.size + 1, 1, none⟩) := hdep 3 16 (by kernel_rfl) (by kernel_rfl)
        simp [go_sem, ts, b1]
        exact ⟨Below.refl _ _, rfl⟩
      | 5, _ =>
        simp only [gTA, gCZ, gCS, gSI] at ho
        subst ho
        have ts : ρ (.tmp 2) = .pointer (some ⟨w.heap.size, 0, none⟩) := hfr 2 (by kernel_rfl)
        simp [go_sem, ts, g0, g1, g2, g3, g4]
        exact ⟨Below.refl _ _, rfl⟩
      | 6, _ =>
        simp only [gTA, gCZ, gCS, gSI] at ho
        subst ho
        have ts : ρ (.tmp 1) = .int .i64 (k : Int) := hfr 1 (by kernel_rfl)
        simp [go_sem, ts]
        exact ⟨Below.refl _ _, rfl⟩
      | 7, _ =>
        simp only [gTA, gCZ, gCS, gSI] at ho
        subst ho
        have ts : ρ (.tmp 6) = .pointer (some ⟨w.heap.size + 1, 0, none⟩) := hfr 6 (by kernel_rfl)
        simp [go_sem, ts]
        exact ⟨Below.refl _ _, rfl⟩
      | 8, _ =>
        simp only [gTA, gCZ, gCS, gSI] at ho
        subst ho
        have ts : ρ (.tmp 20) = .pointer (some ⟨w.heap.size + 1, 0, none⟩) := hdep 7 20 (by kernel_rfl) (by kernel_rfl)
        simp [go_sem, ts, b0]
        exact ⟨Below.refl _ _, rfl⟩
      | 9, _ =>
        simp only [gTA, gCZ, gCS, gSI] at ho
        subst ho
        have ts : ρ (.tmp 6) = .pointer (some ⟨w.heap.size + 1, 0, none⟩) := hfr 6 (by kernel_rfl)
        simp [go_sem, ts]
        exact ⟨Below.refl _ _, rfl⟩
      | 10, _ =>
        simp only [gTA, gCZ, gCS, gSI] at ho
        subst ho
        have ts : ρ (.tmp 22) = .pointer (some ⟨w.heap.size + 1, 1, none⟩) := hdep 9 22 (by kernel_rfl) (by kernel_rfl)
        simp [go_sem, ts, b1]
        exact ⟨Below.refl _ _, rfl⟩
      | 11, _ =>
        simp only [gTA, gCZ, gCS, gSI] at ho
        subst ho
        have t0 : ρ (.tmp 18) = .agg #[.string (str g.name), .slice a1 g.actors.length c1, .slice (some ⟨b, off, none⟩) g.edges.length c2, .slice a3 g.ins.length c3, .slice a4 g.outs.length c4] := hdep 5 18 (by kernel_rfl) (by kernel_rfl)
        have t1 : ρ (.tmp 19) = .int .i64 (k : Int) := hdep 6 19 (by kernel_rfl) (by kernel_rfl)
        have t2 : ρ (.tmp 21) = .int .i64 ef := hdep 8 21 (by kernel_rfl) (by kernel_rfl)
        have t3 : ρ (.tmp 23) = .int .i64 efp := hdep 10 23 (by kernel_rfl) (by kernel_rfl)
        simp [go_sem, t0, t1, t2, t3, hf, hc]
        exact ⟨rfl, (OTV.out w' hb).mono fun e w'' hh => ⟨_, hh.1, hh.2, rfl⟩⟩
      | 12, _ =>
        simp only [gTA, gCZ, gCS, gSI] at ho
        subst ho
        have t0 : ρ (.tmp 13) = .agg #[.string (str g.name), .slice a1 g.actors.length c1, .slice (some ⟨b, off, none⟩) g.edges.length c2, .slice a3 g.ins.length c3, .slice a4 g.outs.length c4] := hdep 0 13 (by kernel_rfl) (by kernel_rfl)
        have t1 : ρ (.tmp 15) = .int .i64 ef := hdep 2 15 (by kernel_rfl) (by kernel_rfl)
        have t2 : ρ (.tmp 17) = .int .i64 efp := hdep 4 17 (by kernel_rfl) (by kernel_rfl)
        have t3 : ρ (.tmp 24) = .bool tk1 := hdep 11 24 (by kernel_rfl) (by kernel_rfl)
        simp [go_sem, t0, t1, t2, t3, hf, hc]
        exact ⟨rfl, (EOV.out w' hb).mono fun e w'' hh => ⟨_, hh.1, hh.2, rfl⟩⟩
    · intro V9 w9 q9 hS
      have e0 : V9 0 = .agg #[.string (str g.name), .slice a1 g.actors.length c1, .slice (some ⟨b, off, none⟩) g.edges.length c2, .slice a3 g.ins.length c3, .slice a4 g.outs.length c4] := hS 0 (by decide)
      have e1 : V9 1 = .pointer (some ⟨w.heap.size + 1, 0, none⟩) := hS 1 (by decide)
      have e2 : V9 2 = .int .i64 ef := hS 2 (by decide)
      have e3 : V9 3 = .pointer (some ⟨w.heap.size + 1, 1, none⟩) := hS 3 (by decide)
      have e4 : V9 4 = .int .i64 efp := hS 4 (by decide)
      have e5 : V9 5 = .agg #[.string (str g.name), .slice a1 g.actors.length c1, .slice (some ⟨b, off, none⟩) g.edges.length c2, .slice a3 g.ins.length c3, .slice a4 g.outs.length c4] := hS 5 (by decide)
      have e6 : V9 6 = .int .i64 (k : Int) := hS 6 (by decide)
      have e7 : V9 7 = .pointer (some ⟨w.heap.size + 1, 0, none⟩) := hS 7 (by decide)
      have e8 : V9 8 = .int .i64 ef := hS 8 (by decide)
      have e9 : V9 9 = .pointer (some ⟨w.heap.size + 1, 1, none⟩) := hS 9 (by decide)
      have e10 : V9 10 = .int .i64 efp := hS 10 (by decide)
      have e11 : V9 11 = .bool tk1 := hS 11 (by decide)
      have e12 : V9 12 = .int .i64 0 := hS 12 (by decide)
      simp only [List.drop_succ_cons, List.drop_zero, List.take_succ_cons, List.take_zero, puts, e0, e1, e2, e3, e4, e5, e6, e7, e8, e9, e10, e11, e12]
      clear hS e0 e1 e2 e3 e4 e5 e6 e7 e8 e9 e10 e11 e12 V9
      simp only [Act.put, List.setIfInBounds_toArray, List.set_cons_zero, List.set_cons_succ]
      have Q9 := hiddenG q9
      have BW := hiddenG (BV.out.trans (q9.mono BV.out.size))
      have gy0 := cell_keep q9 gx0
      have gy1 := cell_keep q9 gx1
      have gy2 := cell_keep q9 gx2
      have gy3 := cell_keep q9 gx3
      have gy4 := cell_keep q9 gx4
      have bc0 := cell_keep q9 bb0
      have bc1 := cell_keep q9 bb1
      have bc2 := cell_keep q9 bb2
      have bc3 := cell_keep q9 bb3
      have bc4 := cell_keep q9 bb4
      have ITV : Hid (∀ U, Below w9.heap.size w9 U → Calls Try.prog 90 #[.agg #[.string (str g.name), .slice a1 g.actors.length c1, .slice (some ⟨b, off, none⟩) g.edges.length c2, .slice a3 g.ins.length c3, .slice a4 g.outs.length c4], .int .i64 (k : Int), .int .i64 0, .int .i64 et, .int .i64 etp] U fun e w' => e = .returned (.bool tk2) ∧ Below U.heap.size U w') := fun U hb => IT1.out U (BW.out.trans (hb.mono BW.out.size))
      have EIV : Hid (∀ U, Below w9.heap.size w9 U → Calls Try.prog 88 #[.agg #[.string (str g.name), .slice a1 g.actors.length c1, .slice (some ⟨b, off, none⟩) g.edges.length c2, .slice a3 g.ins.length c3, .slice a4 g.outs.length c4], .int .i64 et, .int .i64 etp, .bool false, .bool tk2] U fun e w' => e = .returned (.int .i64 ie) ∧ Below U.heap.size U w') := fun U hb => EI.out U (BW.out.trans (hb.mono BW.out.size))
      clear q9 gx0 gx1 gx2 gx3 gx4 bb0 bb1 bb2 bb3 bb4 OTV EOV
      go_upto_region 5 with fail
      by_cases h2 : ie = 0
      · subst h2
        refine wp_region_said 13 (fun i u v => match i with
            | 0 => v = .agg #[.string (str g.name), .slice a1 g.actors.length c1, .slice (some ⟨b, off, none⟩) g.edges.length c2, .slice a3 g.ins.length c3, .slice a4 g.outs.length c4]
            | 1 => v = .pointer (some ⟨w.heap.size + 1, 2, none⟩)
            | 2 => v = .int .i64 et
            | 3 => v = .pointer (some ⟨w.heap.size + 1, 3, none⟩)
            | 4 => v = .int .i64 etp
            | 5 => v = .agg #[.string (str g.name), .slice a1 g.actors.length c1, .slice (some ⟨b, off, none⟩) g.edges.length c2, .slice a3 g.ins.length c3, .slice a4 g.outs.length c4]
            | 6 => v = .int .i64 (k : Int)
            | 7 => v = .pointer (some ⟨w.heap.size + 1, 2, none⟩)
            | 8 => v = .int .i64 et
            | 9 => v = .pointer (some ⟨w.heap.size + 1, 3, none⟩)
            | 10 => v = .int .i64 etp
            | 11 => v = .bool tk2
            | 12 => v = .int .i64 0
            | _ => True) (by kernel_rfl) (by kernel_rfl) (by kernel_rfl) (by kernel_rfl) ?_ ?_ ?_
        · intro i w v w' h hb
          match i, h with
          | 0, h => exact h
          | 1, h => exact h
          | 2, h => exact h
          | 3, h => exact h
          | 4, h => exact h
          | 5, h => exact h
          | 6, h => exact h
          | 7, h => exact h
          | 8, h => exact h
          | 9, h => exact h
          | 10, h => exact h
          | 11, h => exact h
          | 12, h => exact h
          | _ + 13, _ => trivial
        · intro i o ρ w' hi ho hb hc hf hfr hdep
          have g0 := cell_keep hb gy0
          have g1 := cell_keep hb gy1
          have g2 := cell_keep hb gy2
          have g3 := cell_keep hb gy3
          have g4 := cell_keep hb gy4
          have b0 := cell_keep hb bc0
          have b1 := cell_keep hb bc1
          have b2 := cell_keep hb bc2
          have b3 := cell_keep hb bc3
          match i, hi with
          | 0, _ =>
            simp only [gTA, gCZ, gSI] at ho
            subst ho
            have ts : ρ (.tmp 2) = .pointer (some ⟨w.heap.size, 0, none⟩) := hfr 2 (by kernel_rfl)
            simp [go_sem, ts, g0, g1, g2, g3, g4]
            exact ⟨Below.refl _ _, rfl⟩
          | 1, _ =>
            simp only [gTA, gCZ, gCS, gSI] at ho
            subst ho
            have ts : ρ (.tmp 6) = .pointer (some ⟨w.heap.size + 1, 0, none⟩) := hfr 6 (by kernel_rfl)
            simp [go_sem, ts]
            exact ⟨Below.refl _ _, rfl⟩
          | 2, _ =>
            simp only [gTA, gCZ, gCS, gSI] at ho
            subst ho
            have ts : ρ (.tmp 30) = .pointer (some ⟨w.heap.size + 1, 2, none⟩) := hdep 1 30 (by kernel_rfl) (by kernel_rfl)
            simp [go_sem, ts, b2]
            exact ⟨Below.refl _ _, rfl⟩
          | 3, _ =>
            simp only [gTA, gCZ, gCS, gSI] at ho
            subst ho
            have ts : ρ (.tmp 6) = .pointer (some ⟨w.heap.size + 1, 0, none⟩) := hfr 6 (by kernel_rfl)
            simp [go_sem, ts]
            exact ⟨Below.refl _ _, rfl⟩
          | 4, _ =>
            simp only [gTA, gCZ, gCS, gSI] at ho
            subst ho
            have ts : ρ (.tmp 32) = .pointer (some ⟨w.heap.size + 1, 3, none⟩) := hdep 3 32 (by kernel_rfl) (by kernel_rfl)
            simp [go_sem, ts, b3]
            exact ⟨Below.refl _ _, rfl⟩
          | 5, _ =>
            simp only [gTA, gCZ, gCS, gSI] at ho
            subst ho
            have ts : ρ (.tmp 2) = .pointer (some ⟨w.heap.size, 0, none⟩) := hfr 2 (by kernel_rfl)
            simp [go_sem, ts, g0, g1, g2, g3, g4]
            exact ⟨Below.refl _ _, rfl⟩
          | 6, _ =>
            simp only [gTA, gCZ, gCS, gSI] at ho
            subst ho
            have ts : ρ (.tmp 1) = .int .i64 (k : Int) := hfr 1 (by kernel_rfl)
            simp [go_sem, ts]
            exact ⟨Below.refl _ _, rfl⟩
          | 7, _ =>
            simp only [gTA, gCZ, gCS, gSI] at ho
            subst ho
            have ts : ρ (.tmp 6) = .pointer (some ⟨w.heap.size + 1, 0, none⟩) := hfr 6 (by kernel_rfl)
            simp [go_sem, ts]
            exact ⟨Below.refl _ _, rfl⟩
          | 8, _ =>
            simp only [gTA, gCZ, gCS, gSI] at ho
            subst ho
            have ts : ρ (.tmp 36) = .pointer (some ⟨w.heap.size + 1, 2, none⟩) := hdep 7 36 (by kernel_rfl) (by kernel_rfl)
            simp [go_sem, ts, b2]
            exact ⟨Below.refl _ _, rfl⟩
          | 9, _ =>
            simp only [gTA, gCZ, gCS, gSI] at ho
            subst ho
            have ts : ρ (.tmp 6) = .pointer (some ⟨w.heap.size + 1, 0, none⟩) := hfr 6 (by kernel_rfl)
            simp [go_sem, ts]
            exact ⟨Below.refl _ _, rfl⟩
          | 10, _ =>
            simp only [gTA, gCZ, gCS, gSI] at ho
            subst ho
            have ts : ρ (.tmp 38) = .pointer (some ⟨w.heap.size + 1, 3, none⟩) := hdep 9 38 (by kernel_rfl) (by kernel_rfl)
            simp [go_sem, ts, b3]
            exact ⟨Below.refl _ _, rfl⟩
          | 11, _ =>
            simp only [gTA, gCZ, gCS, gSI] at ho
            subst ho
            have t0 : ρ (.tmp 34) = .agg #[.string (str g.name), .slice a1 g.actors.length c1, .slice (some ⟨b, off, none⟩) g.edges.length c2, .slice a3 g.ins.length c3, .slice a4 g.outs.length c4] := hdep 5 34 (by kernel_rfl) (by kernel_rfl)
            have t1 : ρ (.tmp 35) = .int .i64 (k : Int) := hdep 6 35 (by kernel_rfl) (by kernel_rfl)
            have t2 : ρ (.tmp 37) = .int .i64 et := hdep 8 37 (by kernel_rfl) (by kernel_rfl)
            have t3 : ρ (.tmp 39) = .int .i64 etp := hdep 10 39 (by kernel_rfl) (by kernel_rfl)
            simp [go_sem, t0, t1, t2, t3, hf, hc]
            exact ⟨rfl, (ITV.out w' hb).mono fun e w'' hh => ⟨_, hh.1, hh.2, rfl⟩⟩
          | 12, _ =>
            simp only [gTA, gCZ, gCS, gSI] at ho
            subst ho
            have t0 : ρ (.tmp 29) = .agg #[.string (str g.name), .slice a1 g.actors.length c1, .slice (some ⟨b, off, none⟩) g.edges.length c2, .slice a3 g.ins.length c3, .slice a4 g.outs.length c4] := hdep 0 29 (by kernel_rfl) (by kernel_rfl)
            have t1 : ρ (.tmp 31) = .int .i64 et := hdep 2 31 (by kernel_rfl) (by kernel_rfl)
            have t2 : ρ (.tmp 33) = .int .i64 etp := hdep 4 33 (by kernel_rfl) (by kernel_rfl)
            have t3 : ρ (.tmp 40) = .bool tk2 := hdep 11 40 (by kernel_rfl) (by kernel_rfl)
            simp [go_sem, t0, t1, t2, t3, hf, hc]
            exact ⟨rfl, (EIV.out w' hb).mono fun e w'' hh => ⟨_, hh.1, hh.2, rfl⟩⟩
        · intro V9 w8 q8 hS
          have e0 : V9 0 = .agg #[.string (str g.name), .slice a1 g.actors.length c1, .slice (some ⟨b, off, none⟩) g.edges.length c2, .slice a3 g.ins.length c3, .slice a4 g.outs.length c4] := hS 0 (by decide)
          have e1 : V9 1 = .pointer (some ⟨w.heap.size + 1, 2, none⟩) := hS 1 (by decide)
          have e2 : V9 2 = .int .i64 et := hS 2 (by decide)
          have e3 : V9 3 = .pointer (some ⟨w.heap.size + 1, 3, none⟩) := hS 3 (by decide)
          have e4 : V9 4 = .int .i64 etp := hS 4 (by decide)
          have e5 : V9 5 = .agg #[.string (str g.name), .slice a1 g.actors.length c1, .slice (some ⟨b, off, none⟩) g.edges.length c2, .slice a3 g.ins.length c3, .slice a4 g.outs.length c4] := hS 5 (by decide)
          have e6 : V9 6 = .int .i64 (k : Int) := hS 6 (by decide)
          have e7 : V9 7 = .pointer (some ⟨w.heap.size + 1, 2, none⟩) := hS 7 (by decide)
          have e8 : V9 8 = .int .i64 et := hS 8 (by decide)
          have e9 : V9 9 = .pointer (some ⟨w.heap.size + 1, 3, none⟩) := hS 9 (by decide)
          have e10 : V9 10 = .int .i64 etp := hS 10 (by decide)
          have e11 : V9 11 = .bool tk2 := hS 11 (by decide)
          have e12 : V9 12 = .int .i64 0 := hS 12 (by decide)
          simp only [List.drop_succ_cons, List.drop_zero, List.take_succ_cons, List.take_zero, puts, e0, e1, e2, e3, e4, e5, e6, e7, e8, e9, e10, e11, e12]
          clear hS e0 e1 e2 e3 e4 e5 e6 e7 e8 e9 e10 e11 e12 V9
          simp only [Act.put, List.setIfInBounds_toArray, List.set_cons_zero, List.set_cons_succ]
          have B8 := hiddenG (BW.out.trans (q8.mono BW.out.size))
          have bd4 := cell_keep q8 bc4
          clear q8
          by_cases h3 : 256 < es.length
          · have h4 : (es.length : Int) > 256 := by omega
            go_wp2
            refine bodyPost_ret (v := .tuple #[.int .i64 88, .int .i64 0]) (by simp [results, Try.results70, go_sem]) rfl ?_
            exact ⟨by rw [HC.out, if_neg (by decide), if_neg (by decide), if_pos h3]; rfl, B8.out⟩
          · have h4 : ¬ (es.length : Int) > 256 := by omega
            go_wp2
            refine bodyPost_ret (v := .tuple #[.int .i64 0, .int .i64 0]) (by simp [results, Try.results70, go_sem]) rfl ?_
            exact ⟨by rw [HC.out, if_neg (by decide), if_neg (by decide), if_neg h3]; rfl, B8.out⟩
      · have h3 : (ie != 0) = true := by simpa using h2
        refine wp_region_said 13 (fun i u v => match i with
            | 0 => v = .agg #[.string (str g.name), .slice a1 g.actors.length c1, .slice (some ⟨b, off, none⟩) g.edges.length c2, .slice a3 g.ins.length c3, .slice a4 g.outs.length c4]
            | 1 => v = .pointer (some ⟨w.heap.size + 1, 2, none⟩)
            | 2 => v = .int .i64 et
            | 3 => v = .pointer (some ⟨w.heap.size + 1, 3, none⟩)
            | 4 => v = .int .i64 etp
            | 5 => v = .agg #[.string (str g.name), .slice a1 g.actors.length c1, .slice (some ⟨b, off, none⟩) g.edges.length c2, .slice a3 g.ins.length c3, .slice a4 g.outs.length c4]
            | 6 => v = .int .i64 (k : Int)
            | 7 => v = .pointer (some ⟨w.heap.size + 1, 2, none⟩)
            | 8 => v = .int .i64 et
            | 9 => v = .pointer (some ⟨w.heap.size + 1, 3, none⟩)
            | 10 => v = .int .i64 etp
            | 11 => v = .bool tk2
            | 12 => v = .int .i64 ie
            | _ => True) (by kernel_rfl) (by kernel_rfl) (by kernel_rfl) (by kernel_rfl) ?_ ?_ ?_
        · intro i w v w' h hb
          match i, h with
          | 0, h => exact h
          | 1, h => exact h
          | 2, h => exact h
          | 3, h => exact h
          | 4, h => exact h
          | 5, h => exact h
          | 6, h => exact h
          | 7, h => exact h
          | 8, h => exact h
          | 9, h => exact h
          | 10, h => exact h
          | 11, h => exact h
          | 12, h => exact h
          | _ + 13, _ => trivial
        · intro i o ρ w' hi ho hb hc hf hfr hdep
          have g0 := cell_keep hb gy0
          have g1 := cell_keep hb gy1
          have g2 := cell_keep hb gy2
          have g3 := cell_keep hb gy3
          have g4 := cell_keep hb gy4
          have b0 := cell_keep hb bc0
          have b1 := cell_keep hb bc1
          have b2 := cell_keep hb bc2
          have b3 := cell_keep hb bc3
          match i, hi with
          | 0, _ =>
            simp only [gTA, gCZ, gSI] at ho
            subst ho
            have ts : ρ (.tmp 2) = .pointer (some ⟨w.heap.size, 0, none⟩) := hfr 2 (by kernel_rfl)
            simp [go_sem, ts, g0, g1, g2, g3, g4]
            exact ⟨Below.refl _ _, rfl⟩
          | 1, _ =>
            simp only [gTA, gCZ, gCS, gSI] at ho
            subst ho
            have ts : ρ (.tmp 6) = .pointer (some ⟨w.heap.size + 1, 0, none⟩) := hfr 6 (by kernel_rfl)
            simp [go_sem, ts]
            exact ⟨Below.refl _ _, rfl⟩
          | 2, _ =>
            simp only [gTA, gCZ, gCS, gSI] at ho
            subst ho
            have ts : ρ (.tmp 30) = .pointer (some ⟨w.heap.size + 1, 2, none⟩) := hdep 1 30 (by kernel_rfl) (by kernel_rfl)
            simp [go_sem, ts, b2]
            exact ⟨Below.refl _ _, rfl⟩
          | 3, _ =>
            simp only [gTA, gCZ, gCS, gSI] at ho
            subst ho
            have ts : ρ (.tmp 6) = .pointer (some ⟨w.heap.size + 1, 0, none⟩) := hfr 6 (by kernel_rfl)
            simp [go_sem, ts]
            exact ⟨Below.refl _ _, rfl⟩
          | 4, _ =>
            simp only [gTA, gCZ, gCS, gSI] at ho
            subst ho
            have ts : ρ (.tmp 32) = .pointer (some ⟨w.heap.size + 1, 3, none⟩) := hdep 3 32 (by kernel_rfl) (by kernel_rfl)
            simp [go_sem, ts, b3]
            exact ⟨Below.refl _ _, rfl⟩
          | 5, _ =>
            simp only [gTA, gCZ, gCS, gSI] at ho
            subst ho
            have ts : ρ (.tmp 2) = .pointer (some ⟨w.heap.size, 0, none⟩) := hfr 2 (by kernel_rfl)
            simp [go_sem, ts, g0, g1, g2, g3, g4]
            exact ⟨Below.refl _ _, rfl⟩
          | 6, _ =>
            simp only [gTA, gCZ, gCS, gSI] at ho
            subst ho
            have ts : ρ (.tmp 1) = .int .i64 (k : Int) := hfr 1 (by kernel_rfl)
            simp [go_sem, ts]
            exact ⟨Below.refl _ _, rfl⟩
          | 7, _ =>
            simp only [gTA, gCZ, gCS, gSI] at ho
            subst ho
            have ts : ρ (.tmp 6) = .pointer (some ⟨w.heap.size + 1, 0, none⟩) := hfr 6 (by kernel_rfl)
            simp [go_sem, ts]
            exact ⟨Below.refl _ _, rfl⟩
          | 8, _ =>
            simp only [gTA, gCZ, gCS, gSI] at ho
            subst ho
            have ts : ρ (.tmp 36) = .pointer (some ⟨w.heap.size + 1, 2, none⟩) := hdep 7 36 (by kernel_rfl) (by kernel_rfl)
            simp [go_sem, ts, b2]
            exact ⟨Below.refl _ _, rfl⟩
          | 9, _ =>
            simp only [gTA, gCZ, gCS, gSI] at ho
            subst ho
            have ts : ρ (.tmp 6) = .pointer (some ⟨w.heap.size + 1, 0, none⟩) := hfr 6 (by kernel_rfl)
            simp [go_sem, ts]
            exact ⟨Below.refl _ _, rfl⟩
          | 10, _ =>
            simp only [gTA, gCZ, gCS, gSI] at ho
            subst ho
            have ts : ρ (.tmp 38) = .pointer (some ⟨w.heap.size + 1, 3, none⟩) := hdep 9 38 (by kernel_rfl) (by kernel_rfl)
            simp [go_sem, ts, b3]
            exact ⟨Below.refl _ _, rfl⟩
          | 11, _ =>
            simp only [gTA, gCZ, gCS, gSI] at ho
            subst ho
            have t0 : ρ (.tmp 34) = .agg #[.string (str g.name), .slice a1 g.actors.length c1, .slice (some ⟨b, off, none⟩) g.edges.length c2, .slice a3 g.ins.length c3, .slice a4 g.outs.length c4] := hdep 5 34 (by kernel_rfl) (by kernel_rfl)
            have t1 : ρ (.tmp 35) = .int .i64 (k : Int) := hdep 6 35 (by kernel_rfl) (by kernel_rfl)
            have t2 : ρ (.tmp 37) = .int .i64 et := hdep 8 37 (by kernel_rfl) (by kernel_rfl)
            have t3 : ρ (.tmp 39) = .int .i64 etp := hdep 10 39 (by kernel_rfl) (by kernel_rfl)
            simp [go_sem, t0, t1, t2, t3, hf, hc]
            exact ⟨rfl, (ITV.out w' hb).mono fun e w'' hh => ⟨_, hh.1, hh.2, rfl⟩⟩
          | 12, _ =>
            simp only [gTA, gCZ, gCS, gSI] at ho
            subst ho
            have t0 : ρ (.tmp 29) = .agg #[.string (str g.name), .slice a1 g.actors.length c1, .slice (some ⟨b, off, none⟩) g.edges.length c2, .slice a3 g.ins.length c3, .slice a4 g.outs.length c4] := hdep 0 29 (by kernel_rfl) (by kernel_rfl)
            have t1 : ρ (.tmp 31) = .int .i64 et := hdep 2 31 (by kernel_rfl) (by kernel_rfl)
            have t2 : ρ (.tmp 33) = .int .i64 etp := hdep 4 33 (by kernel_rfl) (by kernel_rfl)
            have t3 : ρ (.tmp 40) = .bool tk2 := hdep 11 40 (by kernel_rfl) (by kernel_rfl)
            simp [go_sem, t0, t1, t2, t3, hf, hc]
            exact ⟨rfl, (EIV.out w' hb).mono fun e w'' hh => ⟨_, hh.1, hh.2, rfl⟩⟩
        · intro V9 w8 q8 hS
          have e0 : V9 0 = .agg #[.string (str g.name), .slice a1 g.actors.length c1, .slice (some ⟨b, off, none⟩) g.edges.length c2, .slice a3 g.ins.length c3, .slice a4 g.outs.length c4] := hS 0 (by decide)
          have e1 : V9 1 = .pointer (some ⟨w.heap.size + 1, 2, none⟩) := hS 1 (by decide)
          have e2 : V9 2 = .int .i64 et := hS 2 (by decide)
          have e3 : V9 3 = .pointer (some ⟨w.heap.size + 1, 3, none⟩) := hS 3 (by decide)
          have e4 : V9 4 = .int .i64 etp := hS 4 (by decide)
          have e5 : V9 5 = .agg #[.string (str g.name), .slice a1 g.actors.length c1, .slice (some ⟨b, off, none⟩) g.edges.length c2, .slice a3 g.ins.length c3, .slice a4 g.outs.length c4] := hS 5 (by decide)
          have e6 : V9 6 = .int .i64 (k : Int) := hS 6 (by decide)
          have e7 : V9 7 = .pointer (some ⟨w.heap.size + 1, 2, none⟩) := hS 7 (by decide)
          have e8 : V9 8 = .int .i64 et := hS 8 (by decide)
          have e9 : V9 9 = .pointer (some ⟨w.heap.size + 1, 3, none⟩) := hS 9 (by decide)
          have e10 : V9 10 = .int .i64 etp := hS 10 (by decide)
          have e11 : V9 11 = .bool tk2 := hS 11 (by decide)
          have e12 : V9 12 = .int .i64 ie := hS 12 (by decide)
          simp only [List.drop_succ_cons, List.drop_zero, List.take_succ_cons, List.take_zero, puts, e0, e1, e2, e3, e4, e5, e6, e7, e8, e9, e10, e11, e12]
          clear hS e0 e1 e2 e3 e4 e5 e6 e7 e8 e9 e10 e11 e12 V9
          simp only [Act.put, List.setIfInBounds_toArray, List.set_cons_zero, List.set_cons_succ]
          have B8 := hiddenG (BW.out.trans (q8.mono BW.out.size))
          clear q8
          go_wp2
          refine bodyPost_ret (v := .tuple #[.int .i64 ie, .int .i64 2]) (by simp [results, Try.results70, go_sem]) rfl ?_
          exact ⟨by rw [HC.out, if_neg (by decide), if_pos h2]; rfl, B8.out⟩
  · have h2 : (oe != 0) = true := by simpa using h1
    refine wp_region_said 13 (fun i u v => match i with
        | 0 => v = .agg #[.string (str g.name), .slice a1 g.actors.length c1, .slice (some ⟨b, off, none⟩) g.edges.length c2, .slice a3 g.ins.length c3, .slice a4 g.outs.length c4]
        | 1 => v = .pointer (some ⟨w.heap.size + 1, 0, none⟩)
        | 2 => v = .int .i64 ef
        | 3 => v = .pointer (some ⟨w.heap.size + 1, 1, none⟩)
        | 4 => v = .int .i64 efp
        | 5 => v = .agg #[.string (str g.name), .slice a1 g.actors.length c1, .slice (some ⟨b, off, none⟩) g.edges.length c2, .slice a3 g.ins.length c3, .slice a4 g.outs.length c4]
        | 6 => v = .int .i64 (k : Int)
        | 7 => v = .pointer (some ⟨w.heap.size + 1, 0, none⟩)
        | 8 => v = .int .i64 ef
        | 9 => v = .pointer (some ⟨w.heap.size + 1, 1, none⟩)
        | 10 => v = .int .i64 efp
        | 11 => v = .bool tk1
        | 12 => v = .int .i64 oe
        | _ => True) (by kernel_rfl) (by kernel_rfl) (by kernel_rfl) (by kernel_rfl) ?_ ?_ ?_
    · intro i w v w' h hb
      match i, h with
      | 0, h => exact h
      | 1, h => exact h
      | 2, h => exact h
      | 3, h => exact h
      | 4, h => exact h
      | 5, h => exact h
      | 6, h => exact h
      | 7, h => exact h
      | 8, h => exact h
      | 9, h => exact h
      | 10, h => exact h
      | 11, h => exact h
      | 12, h => exact h
      | _ + 13, _ => trivial
    · intro i o ρ w' hi ho hb hc hf hfr hdep
      have g0 := cell_keep hb gx0
      have g1 := cell_keep hb gx1
      have g2 := cell_keep hb gx2
      have g3 := cell_keep hb gx3
      have g4 := cell_keep hb gx4
      have b0 := cell_keep hb bb0
      have b1 := cell_keep hb bb1
      have b2 := cell_keep hb bb2
      have b3 := cell_keep hb bb3
      match i, hi with
      | 0, _ =>
        simp only [gTA, gCZ, gSI] at ho
        subst ho
        have ts : ρ (.tmp 2) = .pointer (some ⟨w.heap.size, 0, none⟩) := hfr 2 (by kernel_rfl)
        simp [go_sem, ts, g0, g1, g2, g3, g4]
        exact ⟨Below.refl _ _, rfl⟩
      | 1, _ =>
        simp only [gTA, gCZ, gCS, gSI] at ho
        subst ho
        have ts : ρ (.tmp 6) = .pointer (some ⟨w.heap.size + 1, 0, none⟩) := hfr 6 (by kernel_rfl)
        simp [go_sem, ts]
        exact ⟨Below.refl _ _, rfl⟩
      | 2, _ =>
        simp only [gTA, gCZ, gCS, gSI] at ho
        subst ho
        have ts : ρ (.tmp 14) = .pointer (some ⟨w.heap.size + 1, 0, none⟩) := hdep 1 14 (by kernel_rfl) (by kernel_rfl)
        simp [go_sem, ts, b0]
        exact ⟨Below.refl _ _, rfl⟩
      | 3, _ =>
        simp only [gTA, gCZ, gCS, gSI] at ho
        subst ho
        have ts : ρ (.tmp 6) = .pointer (some ⟨w.heap.size + 1, 0, none⟩) := hfr 6 (by kernel_rfl)
        simp [go_sem, ts]
        exact ⟨Below.refl _ _, rfl⟩
      | 4, _ =>
        simp only [gTA, gCZ, gCS, gSI] at ho
        subst ho
        have ts : ρ (.tmp 16) = .pointer (some ⟨w.heap.size + 1, 1, none⟩) := hdep 3 16 (by kernel_rfl) (by kernel_rfl)
        simp [go_sem, ts, b1]
        exact ⟨Below.refl _ _, rfl⟩
      | 5, _ =>
        simp only [gTA, gCZ, gCS, gSI] at ho
        subst ho
        have ts : ρ (.tmp 2) = .pointer (some ⟨w.heap.size, 0, none⟩) := hfr 2 (by kernel_rfl)
        simp [go_sem, ts, g0, g1, g2, g3, g4]
        exact ⟨Below.refl _ _, rfl⟩
      | 6, _ =>
        simp only [gTA, gCZ, gCS, gSI] at ho
        subst ho
        have ts : ρ (.tmp 1) = .int .i64 (k : Int) := hfr 1 (by kernel_rfl)
        simp [go_sem, ts]
        exact ⟨Below.refl _ _, rfl⟩
      | 7, _ =>
        simp only [gTA, gCZ, gCS, gSI] at ho
        subst ho
        have ts : ρ (.tmp 6) = .pointer (some ⟨w.heap.size + 1, 0, none⟩) := hfr 6 (by kernel_rfl)
        simp [go_sem, ts]
        exact ⟨Below.refl _ _, rfl⟩
      | 8, _ =>
        simp only [gTA, gCZ, gCS, gSI] at ho
        subst ho
        have ts : ρ (.tmp 20) = .pointer (some ⟨w.heap.size + 1, 0, none⟩) := hdep 7 20 (by kernel_rfl) (by kernel_rfl)
        simp [go_sem, ts, b0]
        exact ⟨Below.refl _ _, rfl⟩
      | 9, _ =>
        simp only [gTA, gCZ, gCS, gSI] at ho
        subst ho
        have ts : ρ (.tmp 6) = .pointer (some ⟨w.heap.size + 1, 0, none⟩) := hfr 6 (by kernel_rfl)
        simp [go_sem, ts]
        exact ⟨Below.refl _ _, rfl⟩
      | 10, _ =>
        simp only [gTA, gCZ, gCS, gSI] at ho
        subst ho
        have ts : ρ (.tmp 22) = .pointer (some ⟨w.heap.size + 1, 1, none⟩) := hdep 9 22 (by kernel_rfl) (by kernel_rfl)
        simp [go_sem, ts, b1]
        exact ⟨Below.refl _ _, rfl⟩
      | 11, _ =>
        simp only [gTA, gCZ, gCS, gSI] at ho
        subst ho
        have t0 : ρ (.tmp 18) = .agg #[.string (str g.name), .slice a1 g.actors.length c1, .slice (some ⟨b, off, none⟩) g.edges.length c2, .slice a3 g.ins.length c3, .slice a4 g.outs.length c4] := hdep 5 18 (by kernel_rfl) (by kernel_rfl)
        have t1 : ρ (.tmp 19) = .int .i64 (k : Int) := hdep 6 19 (by kernel_rfl) (by kernel_rfl)
        have t2 : ρ (.tmp 21) = .int .i64 ef := hdep 8 21 (by kernel_rfl) (by kernel_rfl)
        have t3 : ρ (.tmp 23) = .int .i64 efp := hdep 10 23 (by kernel_rfl) (by kernel_rfl)
        simp [go_sem, t0, t1, t2, t3, hf, hc]
        exact ⟨rfl, (OTV.out w' hb).mono fun e w'' hh => ⟨_, hh.1, hh.2, rfl⟩⟩
      | 12, _ =>
        simp only [gTA, gCZ, gCS, gSI] at ho
        subst ho
        have t0 : ρ (.tmp 13) = .agg #[.string (str g.name), .slice a1 g.actors.length c1, .slice (some ⟨b, off, none⟩) g.edges.length c2, .slice a3 g.ins.length c3, .slice a4 g.outs.length c4] := hdep 0 13 (by kernel_rfl) (by kernel_rfl)
        have t1 : ρ (.tmp 15) = .int .i64 ef := hdep 2 15 (by kernel_rfl) (by kernel_rfl)
        have t2 : ρ (.tmp 17) = .int .i64 efp := hdep 4 17 (by kernel_rfl) (by kernel_rfl)
        have t3 : ρ (.tmp 24) = .bool tk1 := hdep 11 24 (by kernel_rfl) (by kernel_rfl)
        simp [go_sem, t0, t1, t2, t3, hf, hc]
        exact ⟨rfl, (EOV.out w' hb).mono fun e w'' hh => ⟨_, hh.1, hh.2, rfl⟩⟩
    · intro V9 w9 q9 hS
      have e0 : V9 0 = .agg #[.string (str g.name), .slice a1 g.actors.length c1, .slice (some ⟨b, off, none⟩) g.edges.length c2, .slice a3 g.ins.length c3, .slice a4 g.outs.length c4] := hS 0 (by decide)
      have e1 : V9 1 = .pointer (some ⟨w.heap.size + 1, 0, none⟩) := hS 1 (by decide)
      have e2 : V9 2 = .int .i64 ef := hS 2 (by decide)
      have e3 : V9 3 = .pointer (some ⟨w.heap.size + 1, 1, none⟩) := hS 3 (by decide)
      have e4 : V9 4 = .int .i64 efp := hS 4 (by decide)
      have e5 : V9 5 = .agg #[.string (str g.name), .slice a1 g.actors.length c1, .slice (some ⟨b, off, none⟩) g.edges.length c2, .slice a3 g.ins.length c3, .slice a4 g.outs.length c4] := hS 5 (by decide)
      have e6 : V9 6 = .int .i64 (k : Int) := hS 6 (by decide)
      have e7 : V9 7 = .pointer (some ⟨w.heap.size + 1, 0, none⟩) := hS 7 (by decide)
      have e8 : V9 8 = .int .i64 ef := hS 8 (by decide)
      have e9 : V9 9 = .pointer (some ⟨w.heap.size + 1, 1, none⟩) := hS 9 (by decide)
      have e10 : V9 10 = .int .i64 efp := hS 10 (by decide)
      have e11 : V9 11 = .bool tk1 := hS 11 (by decide)
      have e12 : V9 12 = .int .i64 oe := hS 12 (by decide)
      simp only [List.drop_succ_cons, List.drop_zero, List.take_succ_cons, List.take_zero, puts, e0, e1, e2, e3, e4, e5, e6, e7, e8, e9, e10, e11, e12]
      clear hS e0 e1 e2 e3 e4 e5 e6 e7 e8 e9 e10 e11 e12 V9
      simp only [Act.put, List.setIfInBounds_toArray, List.set_cons_zero, List.set_cons_succ]
      have B8 := hiddenG (BV.out.trans (q9.mono BV.out.size))
      clear q9
      go_wp2
      refine bodyPost_ret (v := .tuple #[.int .i64 oe, .int .i64 1]) (by simp [results, Try.results70, go_sem]) rfl ?_
      exact ⟨by rw [HC.out, if_pos h1]; rfl, B8.out⟩
set_option maxRecDepth 100000 in
set_option maxHeartbeats 8000000 in
theorem in8_any (g : GG) (a1 a2 a3 a4 : Option Addr) (c1 c2 c3 c4 : Nat) (k : Nat) (w : World) (h : GrG w a1 a2 a3 a4 g) (hk : k < g.ins.length) :
    Calls Try.prog 71 #[.agg #[.string (str g.name), .slice a1 g.actors.length c1, .slice a2 g.edges.length c2, .slice a3 g.ins.length c3, .slice a4 g.outs.length c4], .int .i64 (k : Int)] w fun e w' => e = .returned (.tuple #[.int .i64 (inC g k).1, .int .i64 ((inC g k).2 : Int)]) ∧ Below w.heap.size w w' := by
  have hki : (k : Int) < (g.ins.length : Int) := by omega
  have n1 : (g.actors.length : Int) ≤ 1000000000000000 := by have := h.l1; omega
  have n2 : (g.edges.length : Int) ≤ 1000000000000000 := by have := h.l2; omega
  have n3 : (g.ins.length : Int) ≤ 1000000000000000 := by have := h.l3; omega
  have n4 : (g.outs.length : Int) ≤ 1000000000000000 := by have := h.l4; omega
  have ba := (Below.refl w.heap.size w).alloc (Nat.le_refl _) (.cells #[.string (str g.name), .slice a1 g.actors.length c1, .slice a2 g.edges.length c2, .slice a3 g.ins.length c3, .slice a4 g.outs.length c4] 31)
  have HG := hiddenG h
  have NM : Hid (∀ U, Below w.heap.size w U → Calls Try.prog 86 #[.agg #[.string (str g.name), .slice a1 g.actors.length c1, .slice a2 g.edges.length c2, .slice a3 g.ins.length c3, .slice a4 g.outs.length c4], .int .i64 (g.actors.length : Int), .int .i64 (k : Int), .int .i64 0, .string (str (nthP g.ins k).name)] U fun e w' => e = .returned (.bool (namedB g g.actors.length k 0 (nthP g.ins k).name)) ∧ Below U.heap.size U w') := fun U hb => named_any g a1 a2 a3 a4 c1 c2 c3 c4 g.actors.length k 0 _ U (HG.out.below hb) (Nat.le_refl _) (Nat.le_of_lt hk) (Nat.zero_le _)
  have RN : Hid (∀ U, Calls Try.prog 67 #[.string (str (nthP g.ins k).name)] U fun e w' => e = .returned (.bool (nameB (nthP g.ins k).name)) ∧ U = w') := fun U => rname_any _ U
  have TK : Hid (∀ U, Below w.heap.size w U → Calls Try.prog 90 #[.agg #[.string (str g.name), .slice a1 g.actors.length c1, .slice a2 g.edges.length c2, .slice a3 g.ins.length c3, .slice a4 g.outs.length c4], .int .i64 (g.edges.length : Int), .int .i64 (k : Int), .int .i64 (nthP g.ins k).actor, .int .i64 (nthP g.ins k).port] U fun e w' => e = .returned (.bool (inTk g g.edges.length k (nthP g.ins k).actor (nthP g.ins k).port)) ∧ Below U.heap.size U w') := fun U hb => inTaken_any g a1 a2 a3 a4 c1 c2 c3 c4 g.edges.length k _ _ U (HG.out.below hb) (Nat.le_refl _) (Nat.le_of_lt hk)
  have EN : Hid (∀ U, Below w.heap.size w U → Calls Try.prog 88 #[.agg #[.string (str g.name), .slice a1 g.actors.length c1, .slice a2 g.edges.length c2, .slice a3 g.ins.length c3, .slice a4 g.outs.length c4], .int .i64 (nthP g.ins k).actor, .int .i64 (nthP g.ins k).port, .bool false, .bool (inTk g g.edges.length k (nthP g.ins k).actor (nthP g.ins k).port)] U fun e w' => e = .returned (.int .i64 (inEnd g g.edges.length k (nthP g.ins k).actor (nthP g.ins k).port)) ∧ Below U.heap.size U w') := fun U hb => end8_any g a1 a2 a3 a4 c1 c2 c3 c4 _ _ false _ U (HG.out.below hb)
  have HC : Hid (inC g k = if nameB (nthP g.ins k).name = false then (82, 0) else if namedB g g.actors.length k 0 (nthP g.ins k).name = true then (83, 0) else (inEnd g g.edges.length k (nthP g.ins k).actor (nthP g.ins k).port, 2)) := by rfl
  have B0 := hiddenG (gbox_new w #[.string (str g.name), .slice a1 g.actors.length c1, .slice a2 g.edges.length c2, .slice a3 g.ins.length c3, .slice a4 g.outs.length c4])
  have y2 := B0.out.1.cell (k := 3) rfl
  obtain ⟨b, off, ha2, hc⟩ : ∃ b off, a3 = some ⟨b, off, none⟩ ∧ ∀ j, j < g.ins.length → _ := by
    rcases (h.below ba).I with e | q
    · rw [e] at hk; exact absurd hk (Nat.not_lt_zero _)
    · exact q
  obtain ⟨x0, x1, x2⟩ := hc k hk
  rw [ha2] at y2
  clear hc ba h
  generalize namedB g g.actors.length k 0 (nthP g.ins k).name = q2 at *
  generalize inEnd g g.edges.length k (nthP g.ins k).actor (nthP g.ins k).port = ev at *
  generalize inTk g g.edges.length k (nthP g.ins k).actor (nthP g.ins k).port = tk at *
  generalize nthP g.ins k = E at *
  obtain ⟨en, ac, po⟩ := E
  simp only at x0 x1 x2 NM RN TK EN HC
  generalize nameB en = q1 at *
  have bv := B0.out.2.trans (((Below.refl (w.alloc (.cells #[.string (str g.name), .slice a1 g.actors.length c1, .slice a2 g.edges.length c2, .slice a3 g.ins.length c3, .slice a4 g.outs.length c4] 31)).heap.size (w.alloc (.cells #[.string (str g.name), .slice a1 g.actors.length c1, .slice a2 g.edges.length c2, .slice a3 g.ins.length c3, .slice a4 g.outs.length c4] 31))).alloc (Nat.le_refl _) (.cells #[.string (str en), .int .i64 ac, .int .i64 po] 56)).mono B0.out.2.size)
  have GB := hiddenG (B0.out.1.below ((Below.refl (w.alloc (.cells #[.string (str g.name), .slice a1 g.actors.length c1, .slice a2 g.edges.length c2, .slice a3 g.ins.length c3, .slice a4 g.outs.length c4] 31)).heap.size (w.alloc (.cells #[.string (str g.name), .slice a1 g.actors.length c1, .slice a2 g.edges.length c2, .slice a3 g.ins.length c3, .slice a4 g.outs.length c4] 31))).alloc (Nat.le_refl _) (.cells #[.string (str en), .int .i64 ac, .int .i64 po] 56)))
  have BX : Hid (BlkA 56 (w.heap.size + 1) ((w.alloc (.cells #[.string (str g.name), .slice a1 g.actors.length c1, .slice a2 g.edges.length c2, .slice a3 g.ins.length c3, .slice a4 g.outs.length c4] 31)).alloc (.cells #[.string (str en), .int .i64 ac, .int .i64 po] 56)) #[.string (str en), .int .i64 ac, .int .i64 po]) := by
    have q := blkA_new 56 (w.alloc (.cells #[.string (str g.name), .slice a1 g.actors.length c1, .slice a2 g.edges.length c2, .slice a3 g.ins.length c3, .slice a4 g.outs.length c4] 31)) #[.string (str en), .int .i64 ac, .int .i64 po]
    rw [World.size_alloc] at q
    exact q
  have BV := hiddenG bv
  clear bv
  subst ha2
  go_enter Try.func71, Try.ntmps71
  go_upto_region 2 with fail
  generalize (w.alloc (.cells #[.string (str g.name), .slice a1 g.actors.length c1, .slice a2 g.edges.length c2, .slice (some ⟨b, off, none⟩) g.ins.length c3, .slice a4 g.outs.length c4] 31)).alloc (.cells #[.string (str en), .int .i64 ac, .int .i64 po] 56) = V at *
  have gx0 : V.cell? ⟨w.heap.size, 0, none⟩ = some (.string (str g.name)) := (GB.out).cell rfl
  have gx1 : V.cell? ⟨w.heap.size, 1, none⟩ = some (.slice a1 g.actors.length c1) := (GB.out).cell rfl
  have gx2 : V.cell? ⟨w.heap.size, 2, none⟩ = some (.slice a2 g.edges.length c2) := (GB.out).cell rfl
  have gx3 : V.cell? ⟨w.heap.size, 3, none⟩ = some (.slice (some ⟨b, off, none⟩) g.ins.length c3) := (GB.out).cell rfl
  have gx4 : V.cell? ⟨w.heap.size, 4, none⟩ = some (.slice a4 g.outs.length c4) := (GB.out).cell rfl
  have bb0 := BX.out.cell (k := 0) rfl
  have bb1 := BX.out.cell (k := 1) rfl
  have bb2 := BX.out.cell (k := 2) rfl
  clear x0 x1 x2 y2
  cases q1
  · go_wp2_with (go_at_call 67; (with_reducible refine (RN.out _).mono ?_); rintro e w' ⟨rfl, rfl⟩)
    refine bodyPost_ret (v := .tuple #[.int .i64 82, .int .i64 0]) (by simp [results, Try.results71, go_sem]) rfl ?_
    exact ⟨by rw [HC.out]; rfl, BV.out⟩
  · cases q2
    · go_upto_region 6 with (first
        | (go_at_call 86; (with_reducible refine (NM.out _ BV.out).mono ?_); rintro e w2 ⟨rfl, b2⟩; have B2 := hiddenG b2; clear b2)
        | (go_at_call 67; (with_reducible refine (RN.out _).mono ?_); rintro e w' ⟨rfl, rfl⟩))
      have BW := hiddenG (BV.out.trans (B2.out.mono BV.out.size))
      have gy0 := cell_keep B2.out gx0
      have gy1 := cell_keep B2.out gx1
      have gy2 := cell_keep B2.out gx2
      have gy3 := cell_keep B2.out gx3
      have gy4 := cell_keep B2.out gx4
      have bc0 := cell_keep B2.out bb0
      have bc1 := cell_keep B2.out bb1
      have bc2 := cell_keep B2.out bb2
      have TKV : Hid (∀ U, Below w2.heap.size w2 U → Calls Try.prog 90 #[.agg #[.string (str g.name), .slice a1 g.actors.length c1, .slice a2 g.edges.length c2, .slice (some ⟨b, off, none⟩) g.ins.length c3, .slice a4 g.outs.length c4], .int .i64 (g.edges.length : Int), .int .i64 (k : Int), .int .i64 ac, .int .i64 po] U fun e w' => e = .returned (.bool tk) ∧ Below U.heap.size U w') := fun U hb => TK.out U (BW.out.trans (hb.mono BW.out.size))
      have ENV : Hid (∀ U, Below w2.heap.size w2 U → Calls Try.prog 88 #[.agg #[.string (str g.name), .slice a1 g.actors.length c1, .slice a2 g.edges.length c2, .slice (some ⟨b, off, none⟩) g.ins.length c3, .slice a4 g.outs.length c4], .int .i64 ac, .int .i64 po, .bool false, .bool tk] U fun e w' => e = .returned (.int .i64 ev) ∧ Below U.heap.size U w') := fun U hb => EN.out U (BW.out.trans (hb.mono BW.out.size))
      clear gx0 gx1 gx2 gx3 gx4 bb0 bb1 bb2
      refine wp_region_said 16 (fun i u v => match i with
          | 0 => v = .agg #[.string (str g.name), .slice a1 g.actors.length c1, .slice a2 g.edges.length c2, .slice (some ⟨b, off, none⟩) g.ins.length c3, .slice a4 g.outs.length c4]
          | 1 => v = .pointer (some ⟨w.heap.size + 1, 1, none⟩)
          | 2 => v = .int .i64 ac
          | 3 => v = .pointer (some ⟨w.heap.size + 1, 2, none⟩)
          | 4 => v = .int .i64 po
          | 5 => v = .agg #[.string (str g.name), .slice a1 g.actors.length c1, .slice a2 g.edges.length c2, .slice (some ⟨b, off, none⟩) g.ins.length c3, .slice a4 g.outs.length c4]
          | 6 => v = .pointer (some ⟨w.heap.size, 2, none⟩)
          | 7 => v = .slice a2 g.edges.length c2
          | 8 => v = .int .i64 (g.edges.length : Int)
          | 9 => v = .int .i64 (k : Int)
          | 10 => v = .pointer (some ⟨w.heap.size + 1, 1, none⟩)
          | 11 => v = .int .i64 ac
          | 12 => v = .pointer (some ⟨w.heap.size + 1, 2, none⟩)
          | 13 => v = .int .i64 po
          | 14 => v = .bool tk
          | 15 => v = .int .i64 ev
          | _ => True) (by kernel_rfl) (by kernel_rfl) (by kernel_rfl) (by kernel_rfl) ?_ ?_ ?_
      · intro i w v w' h hb
        match i, h with
        | 0, h => exact h
        | 1, h => exact h
        | 2, h => exact h
        | 3, h => exact h
        | 4, h => exact h
        | 5, h => exact h
        | 6, h => exact h
        | 7, h => exact h
        | 8, h => exact h
        | 9, h => exact h
        | 10, h => exact h
        | 11, h => exact h
        | 12, h => exact h
        | 13, h => exact h
        | 14, h => exact h
        | 15, h => exact h
        | _ + 16, _ => trivial
      · intro i o ρ w' hi ho hb hc hf hfr hdep
        have g0 := cell_keep hb gy0
        have g1 := cell_keep hb gy1
        have g2 := cell_keep hb gy2
        have g3 := cell_keep hb gy3
        have g4 := cell_keep hb gy4
        have b0 := cell_keep hb bc0
        have b1 := cell_keep hb bc1
        have b2 := cell_keep hb bc2
        match i, hi with
        | 0, _ =>
          simp only [gTA, gCZ, gSI] at ho
          subst ho
          have ts : ρ (.tmp 2) = .pointer (some ⟨w.heap.size, 0, none⟩) := hfr 2 (by kernel_rfl)
          simp [go_sem, ts, g0, g1, g2, g3, g4]
          exact ⟨Below.refl _ _, rfl⟩
        | 1, _ =>
          simp only [gTA, gCZ, gCS, gSI] at ho
          subst ho
          have ts : ρ (.tmp 6) = .pointer (some ⟨w.heap.size + 1, 0, none⟩) := hfr 6 (by kernel_rfl)
          simp [go_sem, ts]
          exact ⟨Below.refl _ _, rfl⟩
        | 2, _ =>
          simp only [gTA, gCZ, gCS, gSI] at ho
          subst ho
          have ts : ρ (.tmp 25) = .pointer (some ⟨w.heap.size + 1, 1, none⟩) := hdep 1 25 (by kernel_rfl) (by kernel_rfl)
          simp [go_sem, ts, b1]
          exact ⟨Below.refl _ _, rfl⟩
        | 3, _ =>
          simp only [gTA, gCZ, gCS, gSI] at ho
          subst ho
          have ts : ρ (.tmp 6) = .pointer (some ⟨w.heap.size + 1, 0, none⟩) := hfr 6 (by kernel_rfl)
          simp [go_sem, ts]
          exact ⟨Below.refl _ _, rfl⟩
        | 4, _ =>
          simp only [gTA, gCZ, gCS, gSI] at ho
          subst ho
          have ts : ρ (.tmp 27) = .pointer (some ⟨w.heap.size + 1, 2, none⟩) := hdep 3 27 (by kernel_rfl) (by kernel_rfl)
          simp [go_sem, ts, b2]
          exact ⟨Below.refl _ _, rfl⟩
        | 5, _ =>
          simp only [gTA, gCZ, gCS, gSI] at ho
          subst ho
          have ts : ρ (.tmp 2) = .pointer (some ⟨w.heap.size, 0, none⟩) := hfr 2 (by kernel_rfl)
          simp [go_sem, ts, g0, g1, g2, g3, g4]
          exact ⟨Below.refl _ _, rfl⟩
        | 6, _ =>
          simp only [gTA, gCZ, gCS, gSI] at ho
          subst ho
          have ts : ρ (.tmp 2) = .pointer (some ⟨w.heap.size, 0, none⟩) := hfr 2 (by kernel_rfl)
          simp [go_sem, ts]
          exact ⟨Below.refl _ _, rfl⟩
        | 7, _ =>
          simp only [gTA, gCZ, gCS, gSI] at ho
          subst ho
          have ts : ρ (.tmp 30) = .pointer (some ⟨w.heap.size, 2, none⟩) := hdep 6 30 (by kernel_rfl) (by kernel_rfl)
          simp [go_sem, ts, g2]
          exact ⟨Below.refl _ _, rfl⟩
        | 8, _ =>
          simp only [gTA, gCZ, gCS, gSI] at ho
          subst ho
          have ts : ρ (.tmp 31) = .slice a2 g.edges.length c2 := hdep 7 31 (by kernel_rfl) (by kernel_rfl)
          simp [go_sem, ts]
          exact ⟨Below.refl _ _, rfl⟩
        | 9, _ =>
          simp only [gTA, gCZ, gCS, gSI] at ho
          subst ho
          have ts : ρ (.tmp 1) = .int .i64 (k : Int) := hfr 1 (by kernel_rfl)
          simp [go_sem, ts]
          exact ⟨Below.refl _ _, rfl⟩
        | 10, _ =>
          simp only [gTA, gCZ, gCS, gSI] at ho
          subst ho
          have ts : ρ (.tmp 6) = .pointer (some ⟨w.heap.size + 1, 0, none⟩) := hfr 6 (by kernel_rfl)
          simp [go_sem, ts]
          exact ⟨Below.refl _ _, rfl⟩
        | 11, _ =>
          simp only [gTA, gCZ, gCS, gSI] at ho
          subst ho
          have ts : ρ (.tmp 34) = .pointer (some ⟨w.heap.size + 1, 1, none⟩) := hdep 10 34 (by kernel_rfl) (by kernel_rfl)
          simp [go_sem, ts, b1]
          exact ⟨Below.refl _ _, rfl⟩
        | 12, _ =>
          simp only [gTA, gCZ, gCS, gSI] at ho
          subst ho
          have ts : ρ (.tmp 6) = .pointer (some ⟨w.heap.size + 1, 0, none⟩) := hfr 6 (by kernel_rfl)
          simp [go_sem, ts]
          exact ⟨Below.refl _ _, rfl⟩
        | 13, _ =>
          simp only [gTA, gCZ, gCS, gSI] at ho
          subst ho
          have ts : ρ (.tmp 36) = .pointer (some ⟨w.heap.size + 1, 2, none⟩) := hdep 12 36 (by kernel_rfl) (by kernel_rfl)
          simp [go_sem, ts, b2]
          exact ⟨Below.refl _ _, rfl⟩
        | 14, _ =>
          simp only [gTA, gCZ, gCS, gSI] at ho
          subst ho
          have t0 : ρ (.tmp 29) = .agg #[.string (str g.name), .slice a1 g.actors.length c1, .slice a2 g.edges.length c2, .slice (some ⟨b, off, none⟩) g.ins.length c3, .slice a4 g.outs.length c4] := hdep 5 29 (by kernel_rfl) (by kernel_rfl)
          have t1 : ρ (.tmp 32) = .int .i64 (g.edges.length : Int) := hdep 8 32 (by kernel_rfl) (by kernel_rfl)
          have t2 : ρ (.tmp 33) = .int .i64 (k : Int) := hdep 9 33 (by kernel_rfl) (by kernel_rfl)
          have t3 : ρ (.tmp 35) = .int .i64 ac := hdep 11 35 (by kernel_rfl) (by kernel_rfl)
          have t4 : ρ (.tmp 37) = .int .i64 po := hdep 13 37 (by kernel_rfl) (by kernel_rfl)
          simp [go_sem, t0, t1, t2, t3, t4, hf]
          exact ⟨rfl, (TKV.out w' hb).mono fun e w'' hh => ⟨_, hh.1, hh.2, rfl⟩⟩
        | 15, _ =>
          simp only [gTA, gCZ, gCS, gSI] at ho
          subst ho
          have t0 : ρ (.tmp 24) = .agg #[.string (str g.name), .slice a1 g.actors.length c1, .slice a2 g.edges.length c2, .slice (some ⟨b, off, none⟩) g.ins.length c3, .slice a4 g.outs.length c4] := hdep 0 24 (by kernel_rfl) (by kernel_rfl)
          have t1 : ρ (.tmp 26) = .int .i64 ac := hdep 2 26 (by kernel_rfl) (by kernel_rfl)
          have t2 : ρ (.tmp 28) = .int .i64 po := hdep 4 28 (by kernel_rfl) (by kernel_rfl)
          have t3 : ρ (.tmp 38) = .bool tk := hdep 14 38 (by kernel_rfl) (by kernel_rfl)
          simp [go_sem, t0, t1, t2, t3, hf, hc]
          exact ⟨rfl, (ENV.out w' hb).mono fun e w'' hh => ⟨_, hh.1, hh.2, rfl⟩⟩
        | k + 16, h => exact absurd h (by omega)
      · intro V9 w9 q9 hS
        have e0 : V9 0 = .agg #[.string (str g.name), .slice a1 g.actors.length c1, .slice a2 g.edges.length c2, .slice (some ⟨b, off, none⟩) g.ins.length c3, .slice a4 g.outs.length c4] := hS 0 (by decide)
        have e1 : V9 1 = .pointer (some ⟨w.heap.size + 1, 1, none⟩) := hS 1 (by decide)
        have e2 : V9 2 = .int .i64 ac := hS 2 (by decide)
        have e3 : V9 3 = .pointer (some ⟨w.heap.size + 1, 2, none⟩) := hS 3 (by decide)
        have e4 : V9 4 = .int .i64 po := hS 4 (by decide)
        have e5 : V9 5 = .agg #[.string (str g.name), .slice a1 g.actors.length c1, .slice a2 g.edges.length c2, .slice (some ⟨b, off, none⟩) g.ins.length c3, .slice a4 g.outs.length c4] := hS 5 (by decide)
        have e6 : V9 6 = .pointer (some ⟨w.heap.size, 2, none⟩) := hS 6 (by decide)
        have e7 : V9 7 = .slice a2 g.edges.length c2 := hS 7 (by decide)
        have e8 : V9 8 = .int .i64 (g.edges.length : Int) := hS 8 (by decide)
        have e9 : V9 9 = .int .i64 (k : Int) := hS 9 (by decide)
        have e10 : V9 10 = .pointer (some ⟨w.heap.size + 1, 1, none⟩) := hS 10 (by decide)
        have e11 : V9 11 = .int .i64 ac := hS 11 (by decide)
        have e12 : V9 12 = .pointer (some ⟨w.heap.size + 1, 2, none⟩) := hS 12 (by decide)
        have e13 : V9 13 = .int .i64 po := hS 13 (by decide)
        have e14 : V9 14 = .bool tk := hS 14 (by decide)
        have e15 : V9 15 = .int .i64 ev := hS 15 (by decide)
        simp only [List.drop_succ_cons, List.drop_zero, List.take_succ_cons, List.take_zero, puts, e0, e1, e2, e3, e4, e5, e6, e7, e8, e9, e10, e11, e12, e13, e14, e15]
        clear hS e0 e1 e2 e3 e4 e5 e6 e7 e8 e9 e10 e11 e12 e13 e14 e15 V9
        simp only [Act.put, List.setIfInBounds_toArray, List.set_cons_zero, List.set_cons_succ]
        have B8 := hiddenG (BW.out.trans (q9.mono BW.out.size))
        clear q9
        go_wp2
        refine bodyPost_ret (v := .tuple #[.int .i64 ev, .int .i64 2]) (by simp [results, Try.results71, go_sem]) rfl ?_
        exact ⟨by rw [HC.out]; rfl, B8.out⟩
    · go_wp2_with (first
        | (go_at_call 86; (with_reducible refine (NM.out _ BV.out).mono ?_); rintro e w2 ⟨rfl, b2⟩; have B2 := hiddenG b2; clear b2)
        | (go_at_call 67; (with_reducible refine (RN.out _).mono ?_); rintro e w' ⟨rfl, rfl⟩))
      refine bodyPost_ret (v := .tuple #[.int .i64 83, .int .i64 0]) (by simp [results, Try.results71, go_sem]) rfl ?_
      exact ⟨by rw [HC.out]; rfl, BV.out.trans (B2.out.mono BV.out.size)⟩
set_option maxRecDepth 100000 in
set_option maxHeartbeats 8000000 in
theorem out8_any (g : GG) (a1 a2 a3 a4 : Option Addr) (c1 c2 c3 c4 : Nat) (k : Nat) (w : World) (h : GrG w a1 a2 a3 a4 g) (hk : k < g.outs.length) :
    Calls Try.prog 72 #[.agg #[.string (str g.name), .slice a1 g.actors.length c1, .slice a2 g.edges.length c2, .slice a3 g.ins.length c3, .slice a4 g.outs.length c4], .int .i64 (k : Int)] w fun e w' => e = .returned (.tuple #[.int .i64 (outC g k).1, .int .i64 ((outC g k).2 : Int)]) ∧ Below w.heap.size w w' := by
  have hki : (k : Int) < (g.outs.length : Int) := by omega
  have n1 : (g.actors.length : Int) ≤ 1000000000000000 := by have := h.l1; omega
  have n2 : (g.edges.length : Int) ≤ 1000000000000000 := by have := h.l2; omega
  have n3 : (g.ins.length : Int) ≤ 1000000000000000 := by have := h.l3; omega
  have n4 : (g.outs.length : Int) ≤ 1000000000000000 := by have := h.l4; omega
  have ba := (Below.refl w.heap.size w).alloc (Nat.le_refl _) (.cells #[.string (str g.name), .slice a1 g.actors.length c1, .slice a2 g.edges.length c2, .slice a3 g.ins.length c3, .slice a4 g.outs.length c4] 31)
  have HG := hiddenG h
  have NM : Hid (∀ U, Below w.heap.size w U → Calls Try.prog 86 #[.agg #[.string (str g.name), .slice a1 g.actors.length c1, .slice a2 g.edges.length c2, .slice a3 g.ins.length c3, .slice a4 g.outs.length c4], .int .i64 (g.actors.length : Int), .int .i64 (g.ins.length : Int), .int .i64 (k : Int), .string (str (nthP g.outs k).name)] U fun e w' => e = .returned (.bool (namedB g g.actors.length g.ins.length k (nthP g.outs k).name)) ∧ Below U.heap.size U w') := fun U hb => named_any g a1 a2 a3 a4 c1 c2 c3 c4 g.actors.length g.ins.length k _ U (HG.out.below hb) (Nat.le_refl _) (Nat.le_refl _) (Nat.le_of_lt hk)
  have RN : Hid (∀ U, Calls Try.prog 67 #[.string (str (nthP g.outs k).name)] U fun e w' => e = .returned (.bool (nameB (nthP g.outs k).name)) ∧ U = w') := fun U => rname_any _ U
  have TK : Hid (∀ U, Below w.heap.size w U → Calls Try.prog 89 #[.agg #[.string (str g.name), .slice a1 g.actors.length c1, .slice a2 g.edges.length c2, .slice a3 g.ins.length c3, .slice a4 g.outs.length c4], .int .i64 (g.edges.length : Int), .int .i64 (k : Int), .int .i64 (nthP g.outs k).actor, .int .i64 (nthP g.outs k).port] U fun e w' => e = .returned (.bool (outTk g g.edges.length k (nthP g.outs k).actor (nthP g.outs k).port)) ∧ Below U.heap.size U w') := fun U hb => outTaken_any g a1 a2 a3 a4 c1 c2 c3 c4 g.edges.length k _ _ U (HG.out.below hb) (Nat.le_refl _) (Nat.le_of_lt hk)
  have EN : Hid (∀ U, Below w.heap.size w U → Calls Try.prog 88 #[.agg #[.string (str g.name), .slice a1 g.actors.length c1, .slice a2 g.edges.length c2, .slice a3 g.ins.length c3, .slice a4 g.outs.length c4], .int .i64 (nthP g.outs k).actor, .int .i64 (nthP g.outs k).port, .bool true, .bool (outTk g g.edges.length k (nthP g.outs k).actor (nthP g.outs k).port)] U fun e w' => e = .returned (.int .i64 (outEnd g g.edges.length k (nthP g.outs k).actor (nthP g.outs k).port)) ∧ Below U.heap.size U w') := fun U hb => end8_any g a1 a2 a3 a4 c1 c2 c3 c4 _ _ true _ U (HG.out.below hb)
  have HC : Hid (outC g k = if nameB (nthP g.outs k).name = false then (82, 0) else if namedB g g.actors.length g.ins.length k (nthP g.outs k).name = true then (83, 0) else (outEnd g g.edges.length k (nthP g.outs k).actor (nthP g.outs k).port, 1)) := by rfl
  have B0 := hiddenG (gbox_new w #[.string (str g.name), .slice a1 g.actors.length c1, .slice a2 g.edges.length c2, .slice a3 g.ins.length c3, .slice a4 g.outs.length c4])
  have y2 := B0.out.1.cell (k := 4) rfl
  obtain ⟨b, off, ha2, hc⟩ : ∃ b off, a4 = some ⟨b, off, none⟩ ∧ ∀ j, j < g.outs.length → _ := by
    rcases (h.below ba).O with e | q
    · rw [e] at hk; exact absurd hk (Nat.not_lt_zero _)
    · exact q
  obtain ⟨x0, x1, x2⟩ := hc k hk
  rw [ha2] at y2
  clear hc ba h
  generalize namedB g g.actors.length g.ins.length k (nthP g.outs k).name = q2 at *
  generalize outEnd g g.edges.length k (nthP g.outs k).actor (nthP g.outs k).port = ev at *
  generalize outTk g g.edges.length k (nthP g.outs k).actor (nthP g.outs k).port = tk at *
  generalize nthP g.outs k = E at *
  obtain ⟨en, ac, po⟩ := E
  simp only at x0 x1 x2 NM RN TK EN HC
  generalize nameB en = q1 at *
  have bv := B0.out.2.trans (((Below.refl (w.alloc (.cells #[.string (str g.name), .slice a1 g.actors.length c1, .slice a2 g.edges.length c2, .slice a3 g.ins.length c3, .slice a4 g.outs.length c4] 31)).heap.size (w.alloc (.cells #[.string (str g.name), .slice a1 g.actors.length c1, .slice a2 g.edges.length c2, .slice a3 g.ins.length c3, .slice a4 g.outs.length c4] 31))).alloc (Nat.le_refl _) (.cells #[.string (str en), .int .i64 ac, .int .i64 po] 56)).mono B0.out.2.size)
  have GB := hiddenG (B0.out.1.below ((Below.refl (w.alloc (.cells #[.string (str g.name), .slice a1 g.actors.length c1, .slice a2 g.edges.length c2, .slice a3 g.ins.length c3, .slice a4 g.outs.length c4] 31)).heap.size (w.alloc (.cells #[.string (str g.name), .slice a1 g.actors.length c1, .slice a2 g.edges.length c2, .slice a3 g.ins.length c3, .slice a4 g.outs.length c4] 31))).alloc (Nat.le_refl _) (.cells #[.string (str en), .int .i64 ac, .int .i64 po] 56)))
  have BX : Hid (BlkA 56 (w.heap.size + 1) ((w.alloc (.cells #[.string (str g.name), .slice a1 g.actors.length c1, .slice a2 g.edges.length c2, .slice a3 g.ins.length c3, .slice a4 g.outs.length c4] 31)).alloc (.cells #[.string (str en), .int .i64 ac, .int .i64 po] 56)) #[.string (str en), .int .i64 ac, .int .i64 po]) := by
    have q := blkA_new 56 (w.alloc (.cells #[.string (str g.name), .slice a1 g.actors.length c1, .slice a2 g.edges.length c2, .slice a3 g.ins.length c3, .slice a4 g.outs.length c4] 31)) #[.string (str en), .int .i64 ac, .int .i64 po]
    rw [World.size_alloc] at q
    exact q
  have BV := hiddenG bv
  clear bv
  subst ha2
  go_enter Try.func72, Try.ntmps72
  go_upto_region 2 with fail
  generalize (w.alloc (.cells #[.string (str g.name), .slice a1 g.actors.length c1, .slice a2 g.edges.length c2, .slice a3 g.ins.length c3, .slice (some ⟨b, off, none⟩) g.outs.length c4] 31)).alloc (.cells #[.string (str en), .int .i64 ac, .int .i64 po] 56) = V at *
  have gx0 : V.cell? ⟨w.heap.size, 0, none⟩ = some (.string (str g.name)) := (GB.out).cell rfl
  have gx1 : V.cell? ⟨w.heap.size, 1, none⟩ = some (.slice a1 g.actors.length c1) := (GB.out).cell rfl
  have gx2 : V.cell? ⟨w.heap.size, 2, none⟩ = some (.slice a2 g.edges.length c2) := (GB.out).cell rfl
  have gx3 : V.cell? ⟨w.heap.size, 3, none⟩ = some (.slice a3 g.ins.length c3) := (GB.out).cell rfl
  have gx4 : V.cell? ⟨w.heap.size, 4, none⟩ = some (.slice (some ⟨b, off, none⟩) g.outs.length c4) := (GB.out).cell rfl
  have bb0 := BX.out.cell (k := 0) rfl
  have bb1 := BX.out.cell (k := 1) rfl
  have bb2 := BX.out.cell (k := 2) rfl
  clear x0 x1 x2 y2
  cases q1
  · go_wp2_with (go_at_call 67; (with_reducible refine (RN.out _).mono ?_); rintro e w' ⟨rfl, rfl⟩)
    refine bodyPost_ret (v := .tuple #[.int .i64 82, .int .i64 0]) (by simp [results, Try.results72, go_sem]) rfl ?_
    exact ⟨by rw [HC.out]; rfl, BV.out⟩
  · cases q2
    · go_upto_region 6 with (first
        | (go_at_call 86; (with_reducible refine (NM.out _ BV.out).mono ?_); rintro e w2 ⟨rfl, b2⟩; have B2 := hiddenG b2; clear b2)
        | (go_at_call 67; (with_reducible refine (RN.out _).mono ?_); rintro e w' ⟨rfl, rfl⟩))
      have BW := hiddenG (BV.out.trans (B2.out.mono BV.out.size))
      have gy0 := cell_keep B2.out gx0
      have gy1 := cell_keep B2.out gx1
      have gy2 := cell_keep B2.out gx2
      have gy3 := cell_keep B2.out gx3
      have gy4 := cell_keep B2.out gx4
      have bc0 := cell_keep B2.out bb0
      have bc1 := cell_keep B2.out bb1
      have bc2 := cell_keep B2.out bb2
      have TKV : Hid (∀ U, Below w2.heap.size w2 U → Calls Try.prog 89 #[.agg #[.string (str g.name), .slice a1 g.actors.length c1, .slice a2 g.edges.length c2, .slice a3 g.ins.length c3, .slice (some ⟨b, off, none⟩) g.outs.length c4], .int .i64 (g.edges.length : Int), .int .i64 (k : Int), .int .i64 ac, .int .i64 po] U fun e w' => e = .returned (.bool tk) ∧ Below U.heap.size U w') := fun U hb => TK.out U (BW.out.trans (hb.mono BW.out.size))
      have ENV : Hid (∀ U, Below w2.heap.size w2 U → Calls Try.prog 88 #[.agg #[.string (str g.name), .slice a1 g.actors.length c1, .slice a2 g.edges.length c2, .slice a3 g.ins.length c3, .slice (some ⟨b, off, none⟩) g.outs.length c4], .int .i64 ac, .int .i64 po, .bool true, .bool tk] U fun e w' => e = .returned (.int .i64 ev) ∧ Below U.heap.size U w') := fun U hb => EN.out U (BW.out.trans (hb.mono BW.out.size))
      clear gx0 gx1 gx2 gx3 gx4 bb0 bb1 bb2
      refine wp_region_said 16 (fun i u v => match i with
          | 0 => v = .agg #[.string (str g.name), .slice a1 g.actors.length c1, .slice a2 g.edges.length c2, .slice a3 g.ins.length c3, .slice (some ⟨b, off, none⟩) g.outs.length c4]
          | 1 => v = .pointer (some ⟨w.heap.size + 1, 1, none⟩)
          | 2 => v = .int .i64 ac
          | 3 => v = .pointer (some ⟨w.heap.size + 1, 2, none⟩)
          | 4 => v = .int .i64 po
          | 5 => v = .agg #[.string (str g.name), .slice a1 g.actors.length c1, .slice a2 g.edges.length c2, .slice a3 g.ins.length c3, .slice (some ⟨b, off, none⟩) g.outs.length c4]
          | 6 => v = .pointer (some ⟨w.heap.size, 2, none⟩)
          | 7 => v = .slice a2 g.edges.length c2
          | 8 => v = .int .i64 (g.edges.length : Int)
          | 9 => v = .int .i64 (k : Int)
          | 10 => v = .pointer (some ⟨w.heap.size + 1, 1, none⟩)
          | 11 => v = .int .i64 ac
          | 12 => v = .pointer (some ⟨w.heap.size + 1, 2, none⟩)
          | 13 => v = .int .i64 po
          | 14 => v = .bool tk
          | 15 => v = .int .i64 ev
          | _ => True) (by kernel_rfl) (by kernel_rfl) (by kernel_rfl) (by kernel_rfl) ?_ ?_ ?_
      · intro i w v w' h hb
        match i, h with
        | 0, h => exact h
        | 1, h => exact h
        | 2, h => exact h
        | 3, h => exact h
        | 4, h => exact h
        | 5, h => exact h
        | 6, h => exact h
        | 7, h => exact h
        | 8, h => exact h
        | 9, h => exact h
        | 10, h => exact h
        | 11, h => exact h
        | 12, h => exact h
        | 13, h => exact h
        | 14, h => exact h
        | 15, h => exact h
        | _ + 16, _ => trivial
      · intro i o ρ w' hi ho hb hc hf hfr hdep
        have g0 := cell_keep hb gy0
        have g1 := cell_keep hb gy1
        have g2 := cell_keep hb gy2
        have g3 := cell_keep hb gy3
        have g4 := cell_keep hb gy4
        have b0 := cell_keep hb bc0
        have b1 := cell_keep hb bc1
        have b2 := cell_keep hb bc2
        match i, hi with
        | 0, _ =>
          simp only [gTA, gCZ, gSI] at ho
          subst ho
          have ts : ρ (.tmp 2) = .pointer (some ⟨w.heap.size, 0, none⟩) := hfr 2 (by kernel_rfl)
          simp [go_sem, ts, g0, g1, g2, g3, g4]
          exact ⟨Below.refl _ _, rfl⟩
        | 1, _ =>
          simp only [gTA, gCZ, gCS, gSI] at ho
          subst ho
          have ts : ρ (.tmp 6) = .pointer (some ⟨w.heap.size + 1, 0, none⟩) := hfr 6 (by kernel_rfl)
          simp [go_sem, ts]
          exact ⟨Below.refl _ _, rfl⟩
        | 2, _ =>
          simp only [gTA, gCZ, gCS, gSI] at ho
          subst ho
          have ts : ρ (.tmp 28) = .pointer (some ⟨w.heap.size + 1, 1, none⟩) := hdep 1 28 (by kernel_rfl) (by kernel_rfl)
          simp [go_sem, ts, b1]
          exact ⟨Below.refl _ _, rfl⟩
        | 3, _ =>
          simp only [gTA, gCZ, gCS, gSI] at ho
          subst ho
          have ts : ρ (.tmp 6) = .pointer (some ⟨w.heap.size + 1, 0, none⟩) := hfr 6 (by kernel_rfl)
          simp [go_sem, ts]
          exact ⟨Below.refl _ _, rfl⟩
        | 4, _ =>
          simp only [gTA, gCZ, gCS, gSI] at ho
          subst ho
          have ts : ρ (.tmp 30) = .pointer (some ⟨w.heap.size + 1, 2, none⟩) := hdep 3 30 (by kernel_rfl) (by kernel_rfl)
          simp [go_sem, ts, b2]
          exact ⟨Below.refl _ _, rfl⟩
        | 5, _ =>
          simp only [gTA, gCZ, gCS, gSI] at ho
          subst ho
          have ts : ρ (.tmp 2) = .pointer (some ⟨w.heap.size, 0, none⟩) := hfr 2 (by kernel_rfl)
          simp [go_sem, ts, g0, g1, g2, g3, g4]
          exact ⟨Below.refl _ _, rfl⟩
        | 6, _ =>
          simp only [gTA, gCZ, gCS, gSI] at ho
          subst ho
          have ts : ρ (.tmp 2) = .pointer (some ⟨w.heap.size, 0, none⟩) := hfr 2 (by kernel_rfl)
          simp [go_sem, ts]
          exact ⟨Below.refl _ _, rfl⟩
        | 7, _ =>
          simp only [gTA, gCZ, gCS, gSI] at ho
          subst ho
          have ts : ρ (.tmp 33) = .pointer (some ⟨w.heap.size, 2, none⟩) := hdep 6 33 (by kernel_rfl) (by kernel_rfl)
          simp [go_sem, ts, g2]
          exact ⟨Below.refl _ _, rfl⟩
        | 8, _ =>
          simp only [gTA, gCZ, gCS, gSI] at ho
          subst ho
          have ts : ρ (.tmp 34) = .slice a2 g.edges.length c2 := hdep 7 34 (by kernel_rfl) (by kernel_rfl)
          simp [go_sem, ts]
          exact ⟨Below.refl _ _, rfl⟩
        | 9, _ =>
          simp only [gTA, gCZ, gCS, gSI] at ho
          subst ho
          have ts : ρ (.tmp 1) = .int .i64 (k : Int) := hfr 1 (by kernel_rfl)
          simp [go_sem, ts]
          exact ⟨Below.refl _ _, rfl⟩
        | 10, _ =>
          simp only [gTA, gCZ, gCS, gSI] at ho
          subst ho
          have ts : ρ (.tmp 6) = .pointer (some ⟨w.heap.size + 1, 0, none⟩) := hfr 6 (by kernel_rfl)
          simp [go_sem, ts]
          exact ⟨Below.refl _ _, rfl⟩
        | 11, _ =>
          simp only [gTA, gCZ, gCS, gSI] at ho
          subst ho
          have ts : ρ (.tmp 37) = .pointer (some ⟨w.heap.size + 1, 1, none⟩) := hdep 10 37 (by kernel_rfl) (by kernel_rfl)
          simp [go_sem, ts, b1]
          exact ⟨Below.refl _ _, rfl⟩
        | 12, _ =>
          simp only [gTA, gCZ, gCS, gSI] at ho
          subst ho
          have ts : ρ (.tmp 6) = .pointer (some ⟨w.heap.size + 1, 0, none⟩) := hfr 6 (by kernel_rfl)
          simp [go_sem, ts]
          exact ⟨Below.refl _ _, rfl⟩
        | 13, _ =>
          simp only [gTA, gCZ, gCS, gSI] at ho
          subst ho
          have ts : ρ (.tmp 39) = .pointer (some ⟨w.heap.size + 1, 2, none⟩) := hdep 12 39 (by kernel_rfl) (by kernel_rfl)
          simp [go_sem, ts, b2]
          exact ⟨Below.refl _ _, rfl⟩
        | 14, _ =>
          simp only [gTA, gCZ, gCS, gSI] at ho
          subst ho
          have t0 : ρ (.tmp 32) = .agg #[.string (str g.name), .slice a1 g.actors.length c1, .slice a2 g.edges.length c2, .slice a3 g.ins.length c3, .slice (some ⟨b, off, none⟩) g.outs.length c4] := hdep 5 32 (by kernel_rfl) (by kernel_rfl)
          have t1 : ρ (.tmp 35) = .int .i64 (g.edges.length : Int) := hdep 8 35 (by kernel_rfl) (by kernel_rfl)
          have t2 : ρ (.tmp 36) = .int .i64 (k : Int) := hdep 9 36 (by kernel_rfl) (by kernel_rfl)
          have t3 : ρ (.tmp 38) = .int .i64 ac := hdep 11 38 (by kernel_rfl) (by kernel_rfl)
          have t4 : ρ (.tmp 40) = .int .i64 po := hdep 13 40 (by kernel_rfl) (by kernel_rfl)
          simp [go_sem, t0, t1, t2, t3, t4, hf]
          exact ⟨rfl, (TKV.out w' hb).mono fun e w'' hh => ⟨_, hh.1, hh.2, rfl⟩⟩
        | 15, _ =>
          simp only [gTA, gCZ, gCS, gSI] at ho
          subst ho
          have t0 : ρ (.tmp 27) = .agg #[.string (str g.name), .slice a1 g.actors.length c1, .slice a2 g.edges.length c2, .slice a3 g.ins.length c3, .slice (some ⟨b, off, none⟩) g.outs.length c4] := hdep 0 27 (by kernel_rfl) (by kernel_rfl)
          have t1 : ρ (.tmp 29) = .int .i64 ac := hdep 2 29 (by kernel_rfl) (by kernel_rfl)
          have t2 : ρ (.tmp 31) = .int .i64 po := hdep 4 31 (by kernel_rfl) (by kernel_rfl)
          have t3 : ρ (.tmp 41) = .bool tk := hdep 14 41 (by kernel_rfl) (by kernel_rfl)
          simp [go_sem, t0, t1, t2, t3, hf, hc]
          exact ⟨rfl, (ENV.out w' hb).mono fun e w'' hh => ⟨_, hh.1, hh.2, rfl⟩⟩
        | k + 16, h => exact absurd h (by omega)
      · intro V9 w9 q9 hS
        have e0 : V9 0 = .agg #[.string (str g.name), .slice a1 g.actors.length c1, .slice a2 g.edges.length c2, .slice a3 g.ins.length c3, .slice (some ⟨b, off, none⟩) g.outs.length c4] := hS 0 (by decide)
        have e1 : V9 1 = .pointer (some ⟨w.heap.size + 1, 1, none⟩) := hS 1 (by decide)
        have e2 : V9 2 = .int .i64 ac := hS 2 (by decide)
        have e3 : V9 3 = .pointer (some ⟨w.heap.size + 1, 2, none⟩) := hS 3 (by decide)
        have e4 : V9 4 = .int .i64 po := hS 4 (by decide)
        have e5 : V9 5 = .agg #[.string (str g.name), .slice a1 g.actors.length c1, .slice a2 g.edges.length c2, .slice a3 g.ins.length c3, .slice (some ⟨b, off, none⟩) g.outs.length c4] := hS 5 (by decide)
        have e6 : V9 6 = .pointer (some ⟨w.heap.size, 2, none⟩) := hS 6 (by decide)
        have e7 : V9 7 = .slice a2 g.edges.length c2 := hS 7 (by decide)
        have e8 : V9 8 = .int .i64 (g.edges.length : Int) := hS 8 (by decide)
        have e9 : V9 9 = .int .i64 (k : Int) := hS 9 (by decide)
        have e10 : V9 10 = .pointer (some ⟨w.heap.size + 1, 1, none⟩) := hS 10 (by decide)
        have e11 : V9 11 = .int .i64 ac := hS 11 (by decide)
        have e12 : V9 12 = .pointer (some ⟨w.heap.size + 1, 2, none⟩) := hS 12 (by decide)
        have e13 : V9 13 = .int .i64 po := hS 13 (by decide)
        have e14 : V9 14 = .bool tk := hS 14 (by decide)
        have e15 : V9 15 = .int .i64 ev := hS 15 (by decide)
        simp only [List.drop_succ_cons, List.drop_zero, List.take_succ_cons, List.take_zero, puts, e0, e1, e2, e3, e4, e5, e6, e7, e8, e9, e10, e11, e12, e13, e14, e15]
        clear hS e0 e1 e2 e3 e4 e5 e6 e7 e8 e9 e10 e11 e12 e13 e14 e15 V9
        simp only [Act.put, List.setIfInBounds_toArray, List.set_cons_zero, List.set_cons_succ]
        have B8 := hiddenG (BW.out.trans (q9.mono BW.out.size))
        clear q9
        go_wp2
        refine bodyPost_ret (v := .tuple #[.int .i64 ev, .int .i64 1]) (by simp [results, Try.results72, go_sem]) rfl ?_
        exact ⟨by rw [HC.out]; rfl, B8.out⟩
    · go_wp2_with (first
        | (go_at_call 86; (with_reducible refine (NM.out _ BV.out).mono ?_); rintro e w2 ⟨rfl, b2⟩; have B2 := hiddenG b2; clear b2)
        | (go_at_call 67; (with_reducible refine (RN.out _).mono ?_); rintro e w' ⟨rfl, rfl⟩))
      refine bodyPost_ret (v := .tuple #[.int .i64 83, .int .i64 0]) (by simp [results, Try.results72, go_sem]) rfl ?_
      exact ⟨by rw [HC.out]; rfl, BV.out.trans (B2.out.mono BV.out.size)⟩
end Go.Proofs.Ytlfmmdioondaoaa
