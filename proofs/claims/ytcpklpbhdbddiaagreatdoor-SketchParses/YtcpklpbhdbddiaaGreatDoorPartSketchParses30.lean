/- Texts of one chain, laid one behind the other. -/
import Derived.Test.YtcpklpbhdbddiaaGreatDoorPartSketchParses24
import Derived.Test.YtcpklpbhdbddiaaGreatDoorPartSketchParses27
import Derived.Test.YtcpklpbhdbddiaaGreatDoorPartSketchParses29
import Derived.Test.YtcpklpbhdbddiaaGreatDoorPartSketchParses22
namespace Go.Proofs.YtcpklpbhdbddiaaGreatDoor
open Go.ChangeShapes Go.WideShapes Go.ChangeAt Go.RowKit
theorem bodyR_few {ts : List Tok} (hT : ∀ t ∈ ts, In64 t.num) (hl : ts.length ≤ 2000000) {i j : Nat} {x : Itm} (h : bodyR ts i = (some x, j)) : x.nums.length ≤ 2000001 := by
  unfold bodyR at h
  split at h
  · unfold actorR at h
    obtain ⟨a1, j1, h1, h⟩ := then_eq h
    obtain ⟨a2, j2, h2, h⟩ := then_eq h
    obtain ⟨a3, j3, h3, h⟩ := then_eq h
    obtain ⟨a4, j4, h4, h⟩ := then_eq h
    cases h
    have := numsR_len5 hl j4
    show (numsR ts j4).length ≤ _; omega
  split at h
  · unfold edgeR at h
    obtain ⟨a1, j1, h1, h⟩ := then_eq h
    obtain ⟨a2, j2, h2, h⟩ := then_eq h
    obtain ⟨a3, j3, h3, h⟩ := then_eq h
    obtain ⟨a4, j4, h4, h⟩ := then_eq h
    obtain ⟨a5, j5, h5, h⟩ := then_eq h
    cases h
    obtain ⟨w1, w2⟩ := withR_in5 hT hl h5
    show a5.length ≤ _; omega
  split at h
  · unfold inR at h
    obtain ⟨a1, j1, h1, h⟩ := then_eq h
    obtain ⟨a2, j2, h2, h⟩ := then_eq h
    obtain ⟨a3, j3, h3, h⟩ := then_eq h
    obtain ⟨a4, j4, h4, h⟩ := then_eq h
    cases h
    simp
  · unfold outR at h
    obtain ⟨a1, j1, h1, h⟩ := then_eq h
    obtain ⟨a2, j2, h2, h⟩ := then_eq h
    obtain ⟨a3, j3, h3, h⟩ := then_eq h
    obtain ⟨a4, j4, h4, h⟩ := then_eq h
    cases h
    simp
theorem itemsF_few {ts : List Tok} (hT : ∀ t ∈ ts, In64 t.num) (hl : ts.length ≤ 2000000) : ∀ (n i j : Nat) (xs : List Itm), itemsF n ts i = (some xs, j) → ∀ x ∈ xs, x.nums.length ≤ 2000001
  | 0, i, j, xs, h => by cases h
  | n + 1, i, j, xs, h => by
    by_cases he : (nthT ts i).text = [125]
    · have e : itemsF (n + 1) ts i = (some [], i) := by
        show (if _ then _ else _) = _
        rw [if_pos he]
      rw [e] at h
      cases h
      intro x hx; cases hx
    · rw [itemsF_step he] at h
      obtain ⟨a1, j1, h1, h⟩ := then_eq h
      obtain ⟨a2, j2, h2, h⟩ := then_eq h
      cases h
      unfold itemR at h1
      obtain ⟨b1, k1, g1, h1⟩ := then_eq h1
      obtain ⟨b2, k2, g2, h1⟩ := then_eq h1
      cases h1
      intro x hx
      rcases List.mem_cons.1 hx with rfl | hx
      · exact bodyR_few hT hl g1
      · exact itemsF_few hT hl n _ _ _ h2 x hx
theorem sketchR_few {ts : List Tok} (hT : ∀ t ∈ ts, In64 t.num) (hl : ts.length ≤ 2000000) {s : Skt} {j : Nat} (h : sketchR ts = (some s, j)) : ∀ x ∈ s.items, x.nums.length ≤ 2000001 := by
  unfold sketchR at h
  obtain ⟨a1, j1, h1, h⟩ := then_eq h
  obtain ⟨a2, j2, h2, h⟩ := then_eq h
  obtain ⟨a3, j3, h3, h⟩ := then_eq h
  obtain ⟨a4, j4, h4, h⟩ := then_eq h
  obtain ⟨a5, j5, h5, h⟩ := then_eq h
  split at h
  · cases h
    exact itemsF_few hT hl _ _ _ _ h4
  · cases h
/-- What is read of a text: a name, items, an error and its place. -/
def outP (l : List UInt8) : List UInt8 × List Itm × Int × Int :=
  if (textG l).err ≠ 0 then ([], [], (textG l).err, (textG l).place)
  else match sketchR (textG l).toks with
    | (none, j) => ([], [], 50, (nthT (textG l).toks j).place)
    | (some s, _) => (s.name, s.items, 0, 0)
theorem outP_small (l : List UInt8) : (outP l).2.1.length ≤ 2000000 ∧ ∀ x ∈ (outP l).2.1, x.nums.length ≤ 2000001 := by
  unfold outP
  split
  · exact ⟨by simp, fun x hx => by cases hx⟩
  · rename_i h0
    have h0' : (textG l).err = 0 := Classical.byContradiction fun h => h0 h
    rcases hs : sketchR (textG l).toks with ⟨_ | s, j⟩
    · exact ⟨by simp, fun x hx => by cases hx⟩
    · exact ⟨text_items h0' hs, fun x hx => sketchR_few (text_in64 l) (text_len5 l) hs x hx⟩
theorem parse_told {W : World} {l : List UInt8} {e : Ending} {w' : World} (h : ParseEnd W l e w') : ∃ a c L, e = .returned (.tuple #[.agg #[.string (str (outP l).1), .slice a (outP l).2.1.length c], .agg #[.int .i64 (outP l).2.2.1, .int .i64 (outP l).2.2.2]]) ∧ L.map Prod.fst = (outP l).2.1 ∧ Its W.heap.size w' (.slice a (outP l).2.1.length c) L ∧ Below W.heap.size W w' := by
  obtain ⟨h1, hb⟩ := h
  unfold outP
  rcases h1 with ⟨h0, he⟩ | ⟨h0, j, hs, he⟩ | ⟨h0, s, j, a, c, L, hs, he, hL, hi⟩
  · rw [if_pos h0]
    exact ⟨none, 0, [], he, rfl, its_nil _ _, hb⟩
  · rw [if_neg (fun h => h h0), hs]
    exact ⟨none, 0, [], he, rfl, its_nil _ _, hb⟩
  · rw [if_neg (fun h => h h0), hs]
    exact ⟨a, c, L, he, hL.symm, hi, hb⟩
theorem Its.below2 {base w v L} (h : Its base w v L) (o1 o2 : Obj) : Its base ((w.alloc o1).alloc o2) v L := (h.below ((Below.refl _ _).alloc (Nat.le_refl _) _)).below ((Below.refl _ _).alloc (Nat.le_refl _) _)
theorem below2 (w : World) (o1 o2 : Obj) : Below w.heap.size w ((w.alloc o1).alloc o2) := ((Below.refl _ _).alloc (Nat.le_refl _) _).alloc (by simp) _
theorem blk2 (w : World) (T : TypeId) (cs : Array Value) (o : Obj) : Blk T w.heap.size ((w.alloc (.cells cs T)).alloc o) cs := (blk_new T w cs).below ((Below.refl _ _).alloc (Nat.le_refl _) _)
theorem blk3 (w : World) (T : TypeId) (cs : Array Value) (o : Obj) : Blk T (w.heap.size + 1) ((w.alloc o).alloc (.cells cs T)) cs := by
  have h1 := blk_new T (w.alloc o) cs
  have h2 : (w.alloc o).heap.size = w.heap.size + 1 := by simp
  rw [h2] at h1
  exact h1
set_option maxRecDepth 100000 in
set_option maxHeartbeats 8000000 in
theorem sketchParses_walk (l : List UInt8) (w : World) (hE : Env w) (hT : Tab w.heap.size w) : Calls Tryz.prog 3 #[.string (str l)] w fun e w' => e = .returned (.bool true) ∧ Below w.heap.size w w' := by
  have hsm := outP_small l
  have A1 : Hid (∀ W, Env W → Calls Tryz.prog 4 #[.string (str l)] W fun e w' => ∃ a c L, e = .returned (.tuple #[.agg #[.string (str (outP l).1), .slice a (outP l).2.1.length c], .agg #[.int .i64 (outP l).2.2.1, .int .i64 (outP l).2.2.2]]) ∧ L.map Prod.fst = (outP l).2.1 ∧ Its W.heap.size w' (.slice a (outP l).2.1.length c) L ∧ Below W.heap.size W w') := fun W hW => (parse_any l W hW).mono fun _ _ h => parse_told h
  have A2 : Hid (∀ W, Calls Tryz.prog 5 #[.string (str l)] W fun e w' => ∃ a c L, e = .returned (.tuple #[.agg #[.string (str (outP l).1), .slice a (outP l).2.1.length c], .agg #[.int .i64 (outP l).2.2.1, .int .i64 (outP l).2.2.2]]) ∧ L.map Prod.fst = (outP l).2.1 ∧ Its W.heap.size w' (.slice a (outP l).2.1.length c) L ∧ Below W.heap.size W w') := fun W => (rparse_any l W).mono fun _ _ h => parse_told h
  generalize outP l = G at *
  obtain ⟨nm, xs, er, pl⟩ := G
  simp only at hsm A1 A2
  obtain ⟨n, hn⟩ : ∃ n, xs.length = n := ⟨_, rfl⟩
  rw [hn] at hsm A1 A2
  have HXN := hidden hn
  have HSM := hidden hsm
  have HE := hidden hE
  have AW : Hid (∀ W, Below w.heap.size w W → Calls Tryz.prog 7 #[] W fun e w' => e = .returned (.bool true) ∧ Below W.heap.size W w') := fun W hb => awake5 W (hE.below hb) (hT.on5 hb)
  have LEN : Hid (∀ L : List El, L.map Prod.fst = xs → L.length = n) := fun L h => by rw [← HXN.out, ← h, List.length_map]
  have NUM : Hid (∀ L : List El, L.map Prod.fst = xs → ∀ p ∈ L, p.1.nums.length ≤ 2000001) := fun L h p hp => HSM.out.2 p.1 (by rw [← h]; exact List.mem_map_of_mem hp)
  have SAM : Hid (∀ W a b ca cb L M, L.map Prod.fst = xs → M.map Prod.fst = xs → Its w.heap.size W (.slice a n ca) L → Its w.heap.size W (.slice b n cb) M → Calls Tryz.prog 6 #[.agg #[.string (str nm), .slice a n ca], .agg #[.string (str nm), .slice b n cb]] W fun e w' => e = .returned (.bool true) ∧ Below W.heap.size W w') := fun W a b ca cb L M h1 h2 i1 i2 => by
    have l1 := LEN.out L h1
    have l2 := LEN.out M h2
    have j1 : ItR W a L := Its.at5 (c := ca) (by rw [l1]; exact i1)
    have j2 : ItR W b M := Its.at5 (c := cb) (by rw [l2]; exact i2)
    exact rSame_any nm a b n ca cb L M W l1 l2 (h1.trans h2.symm) j1 j2 HSM.out.1 (fun p hp => by have := NUM.out M h2 p hp; omega)
  have APT : Hid (∀ W V a b ca cb L M, L.map Prod.fst = xs → M.map Prod.fst = xs → Its w.heap.size W (.slice a n ca) L → Its w.heap.size W (.slice b n cb) M → Its w.heap.size V (.slice a n ca) L → Its V.heap.size W (.slice b n cb) M → w.heap.size ≤ W.heap.size → Calls Tryz.prog 8 #[.agg #[.string (str nm), .slice a n ca], .agg #[.string (str nm), .slice b n cb]] W fun e w' => e = .returned (.bool true) ∧ Below w.heap.size W w') := fun W V a b ca cb L M h1 h2 i1 i2 i3 i4 hs => by
    have l1 := LEN.out L h1
    have l2 := LEN.out M h2
    refine apart_items w.heap.size W nm nm a b n n ca cb L M i1 i2 l1 l2 HSM.out.1 HSM.out.1 (fun p hp => ?_) (fun k hk => ?_) hs
    · rcases List.mem_append.1 hp with hp | hp
      · have := NUM.out L h1 p hp; omega
      · have := NUM.out M h2 p hp; omega
    · have lo : k < V.heap.size := by
        rcases hk with e | ⟨p, hp, e⟩
        · exact own_lt i3.row k e
        · exact own_lt (i3.nums p hp) k e
      refine ⟨fun e => ?_, fun p hp e => ?_⟩
      · have := own_row i4.row k e; omega
      · have := own_row (i4.nums p hp) k e; omega
  clear hE hT hsm hn
  have q1 : (er != er) = false := by simp
  have q2 : (pl != pl) = false := by simp
  have q3 : (er == er) = true := by simp
  have q4 : (pl == pl) = true := by simp
  go_enter Tryz.func3, Tryz.ntmps3
  go_wp2_with (first
    | (go_at_call 8; (with_reducible refine (APT.out _ _ a1 a2 c1 c2 L1 L2 M1.out M2.out (I1e.out) (I2e.out) I1.out I2h.out B6.out.size).mono ?_); rintro e w7 ⟨rfl, hb7⟩; have B7 := hidden (B6.out.trans hb7); clear hb7)
    | (go_at_call 7; (with_reducible refine (AW.out _ B5.out).mono ?_); rintro e w6 ⟨rfl, hb6⟩; have B6 := hidden (B5.out.trans (hb6.mono B5.out.size)); have I1e := hidden (I1d.out.below hb6); have I2e := hidden (I2d.out.below hb6); have I2h := hidden (I2g.out.below hb6); obtain ⟨y0, y1, -, -⟩ := (S1d.out.below hb6).two; obtain ⟨y2, y3, -, -⟩ := (S2d.out.below hb6).two; clear hb6)
    | (go_at_call 6; (with_reducible refine (SAM.out _ a2 a3 c2 c3 L2 L3 M2.out M3.out I2d4.out I3d4.out).mono ?_); rintro e w5 ⟨rfl, hb5⟩; have B5 := hidden (B4.out.trans (hb5.mono B4.out.size)); have I1d := hidden (I1d4.out.below hb5); have I2d := hidden (I2d4.out.below hb5); have I2g := hidden (I2g4.out.below hb5); have S1d := hidden (S1d4.out.below hb5); have S2d := hidden (S2d4.out.below hb5); clear hb5)
    | (go_at_call 6; (with_reducible refine (SAM.out _ a1 a3 c1 c3 L1 L3 M1.out M3.out I1c.out I3c.out).mono ?_); rintro e w4 ⟨rfl, hb4⟩; have B4 := hidden (B3.out.trans (hb4.mono B3.out.size)); have I1d4 := hidden (I1c.out.below hb4); have I2d4 := hidden (I2c.out.below hb4); have I3d4 := hidden (I3c.out.below hb4); have I2g4 := hidden (I2f.out.below hb4); have S1d4 := hidden (S1c.out.below hb4); have S2d4 := hidden (S2c.out.below hb4); obtain ⟨x2, x3, -, -⟩ := S2d4.out.two; obtain ⟨x4, x5, -, -⟩ := (S3c.out.below hb4).two; clear hb4)
    | (go_at_call 5; (with_reducible refine (A2.out _).mono ?_); rintro e w3 ⟨a3, c3, L3, rfl, m3, i3, hb3⟩; have M3 := hidden m3; have hb3' := hb3.trans ((below2 w3 (.cells #[.string (str nm), .slice a3 n c3] 24) (.cells #[.int .i64 er, .int .i64 pl] 27)).mono hb3.size); have B3 := hidden (B2.out.trans (hb3'.mono B2.out.size)); have I1c := hidden (I1b.out.below hb3'); have I2c := hidden (I2b.out.below hb3'); have I2f := hidden (I2.out.below hb3'); have I3c := hidden ((i3.mono B2.out.size).below2 (.cells #[.string (str nm), .slice a3 n c3] 24) (.cells #[.int .i64 er, .int .i64 pl] 27)); have S1c := hidden (S1b.out.below hb3'); have S2c := hidden (S2b.out.below hb3'); have S3c := hidden (blk2 w3 24 #[.string (str nm), .slice a3 n c3] (.cells #[.int .i64 er, .int .i64 pl] 27)); obtain ⟨f0, f1, -, -⟩ := (F1b.out.below hb3').two; obtain ⟨f2, f3, -, -⟩ := (F2b.out.below hb3').two; obtain ⟨f4, f5, -, -⟩ := (blk3 w3 27 #[.int .i64 er, .int .i64 pl] (.cells #[.string (str nm), .slice a3 n c3] 24)).two; obtain ⟨x0, x1, -, -⟩ := S1c.out.two; obtain ⟨x6, x7, -, -⟩ := S3c.out.two; clear m3 i3 hb3 hb3')
    | (go_at_call 4; (with_reducible refine (A1.out _ (HE.out.below B1.out)).mono ?_); rintro e w2 ⟨a2, c2, L2, rfl, m2, i2, hb2⟩; have M2 := hidden m2; have hb2' := hb2.trans ((below2 w2 (.cells #[.string (str nm), .slice a2 n c2] 24) (.cells #[.int .i64 er, .int .i64 pl] 27)).mono hb2.size); have B2 := hidden (B1.out.trans (hb2'.mono B1.out.size)); have I1b := hidden (I1.out.below hb2'); have I2 := hidden (i2.below2 (.cells #[.string (str nm), .slice a2 n c2] 24) (.cells #[.int .i64 er, .int .i64 pl] 27)); have I2b := hidden ((i2.mono B1.out.size).below2 (.cells #[.string (str nm), .slice a2 n c2] 24) (.cells #[.int .i64 er, .int .i64 pl] 27)); have S1b := hidden (S1.out.below hb2'); have F1b := hidden (F1.out.below hb2'); have S2b := hidden (blk2 w2 24 #[.string (str nm), .slice a2 n c2] (.cells #[.int .i64 er, .int .i64 pl] 27)); have F2b := hidden (blk3 w2 27 #[.int .i64 er, .int .i64 pl] (.cells #[.string (str nm), .slice a2 n c2] 24)); clear m2 i2 hb2 hb2')
    | (go_at_call 4; (with_reducible refine (A1.out _ HE.out).mono ?_); rintro e w1 ⟨a1, c1, L1, rfl, m1, i1, hb1⟩; have M1 := hidden m1; have B1 := hidden (hb1.trans ((below2 w1 (.cells #[.string (str nm), .slice a1 n c1] 24) (.cells #[.int .i64 er, .int .i64 pl] 27)).mono hb1.size)); have I1 := hidden (i1.below2 (.cells #[.string (str nm), .slice a1 n c1] 24) (.cells #[.int .i64 er, .int .i64 pl] 27)); have S1 := hidden (blk2 w1 24 #[.string (str nm), .slice a1 n c1] (.cells #[.int .i64 er, .int .i64 pl] 27)); have F1 := hidden (blk3 w1 27 #[.int .i64 er, .int .i64 pl] (.cells #[.string (str nm), .slice a1 n c1] 24)); clear m1 i1 hb1))
  go_ret
  exact ⟨rfl, B7.out⟩
end Go.Proofs.YtcpklpbhdbddiaaGreatDoor
