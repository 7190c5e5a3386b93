/- Texts of one chain. -/
import Derived.Test.YtgoconkleicmkaaPartQ
import Derived.Test.YtgoconkleicmkaaPartGraphBuilds35
import Derived.Test.YtgoconkleicmkaaPartGraphBuilds33
import Derived.Test.YtgoconkleicmkaaPartGraphBuilds30
import Derived.Test.YtgoconkleicmkaaPartGraphBuilds34
set_option maxRecDepth 100000
set_option maxHeartbeats 32000000
namespace Go.Proofs.Ytgoconkleicmkaa
open Go.ChangeShapes Go.WideShapes Go.ChangeAt Go.RowKit
structure tD (w0 B1 B2 : Nat) (gv hv : Array Value) (v1 v2 v3 v4 u1 u2 u3 u4 : Value) (n1 n2 n3 n4 m1 m2 m3 m4 : Nat) (X1 X2 X3 X4 Y1 Y2 Y3 Y4 : List Value) (V : World) : Prop where
 ba : zN 31 w0 V gv
 bb : zN 31 (w0 + 1) V hv
 r1 : V.ownsRow B1 61 3 v1 n1 X1
 r2 : V.ownsRow B1 64 5 v2 n2 X2
 r3 : V.ownsRow B1 83 3 v3 n3 X3
 r4 : V.ownsRow B1 83 3 v4 n4 X4
 s1 : V.ownsRow B2 61 3 u1 m1 Y1
 s2 : V.ownsRow B2 64 5 u2 m2 Y2
 s3 : V.ownsRow B2 83 3 u3 m3 Y3
 s4 : V.ownsRow B2 83 3 u4 m4 Y4
 n34 : NB v3 v4
 m34 : NB u3 u4
 lo : ∀ k, (v1.ownBlock = some k \/ v2.ownBlock = some k \/ v3.ownBlock = some k \/ v4.ownBlock = some k) -> k < B2
 hi : ∀ k, (u1.ownBlock = some k \/ u2.ownBlock = some k \/ u3.ownBlock = some k \/ u4.ownBlock = some k) -> k < w0
 hb : B1 <= B2
 hB : B2 <= w0
 big : w0 + 2 <= V.heap.size
theorem tD.up {w0 B1 B2 gv hv v1 v2 v3 v4 u1 u2 u3 u4 n1 n2 n3 n4 m1 m2 m3 m4 X1 X2 X3 X4 Y1 Y2 Y3 Y4} {V : World} (h : tD w0 B1 B2 gv hv v1 v2 v3 v4 u1 u2 u3 u4 n1 n2 n3 n4 m1 m2 m3 m4 X1 X2 X3 X4 Y1 Y2 Y3 Y4 V) : ∀ k, (u1.ownBlock = some k \/ u2.ownBlock = some k \/ u3.ownBlock = some k \/ u4.ownBlock = some k) -> B2 <= k := fun k e => by
 rcases e with e | e | e | e
 ·exact zT h.s1 k e
 ·exact zT h.s2 k e
 ·exact zT h.s3 k e
 exact zT h.s4 k e
theorem tD.ne {w0 B1 B2 gv hv v1 v2 v3 v4 u1 u2 u3 u4 n1 n2 n3 n4 m1 m2 m3 m4 X1 X2 X3 X4 Y1 Y2 Y3 Y4} {V : World} (h : tD w0 B1 B2 gv hv v1 v2 v3 v4 u1 u2 u3 u4 n1 n2 n3 n4 m1 m2 m3 m4 X1 X2 X3 X4 Y1 Y2 Y3 Y4 V) {k : Nat} (e : v1.ownBlock = some k \/ v2.ownBlock = some k \/ v3.ownBlock = some k \/ v4.ownBlock = some k) (e2 : u1.ownBlock = some k \/ u2.ownBlock = some k \/ u3.ownBlock = some k \/ u4.ownBlock = some k) : False := by
 have := h.lo k e
 have := h.up k e2
 omega
theorem tD.later {w0 B1 B2 gv hv v1 v2 v3 v4 u1 u2 u3 u4 n1 n2 n3 n4 m1 m2 m3 m4 X1 X2 X3 X4 Y1 Y2 Y3 Y4} {V V' : World} (h : tD w0 B1 B2 gv hv v1 v2 v3 v4 u1 u2 u3 u4 n1 n2 n3 n4 m1 m2 m3 m4 X1 X2 X3 X4 Y1 Y2 Y3 Y4 V) (hb : Below V.heap.size V V') : tD w0 B1 B2 gv hv v1 v2 v3 v4 u1 u2 u3 u4 n1 n2 n3 n4 m1 m2 m3 m4 X1 X2 X3 X4 Y1 Y2 Y3 Y4 V' :=
 ⟨h.ba.below hb, h.bb.below hb, zS h.r1 hb, zS h.r2 hb, zS h.r3 hb, zS h.r4 hb, zS h.s1 hb, zS h.s2 hb, zS h.s3 hb, zS h.s4 hb, h.n34, h.m34, h.lo, h.hi, h.hb, h.hB, Nat.le_trans h.big hb.size⟩
theorem tD.keep {w0 B1 B2 gv hv v1 v2 v3 v4 u1 u2 u3 u4 n1 n2 n3 n4 m1 m2 m3 m4 X1 X2 X3 X4 Y1 Y2 Y3 Y4} {V V' : World} (h : tD w0 B1 B2 gv hv v1 v2 v3 v4 u1 u2 u3 u4 n1 n2 n3 n4 m1 m2 m3 m4 X1 X2 X3 X4 Y1 Y2 Y3 Y4 V) (hs : V.heap.size <= V'.heap.size) (hk : ∀ k, (k = w0 \/ k = w0 + 1 \/ (v1.ownBlock = some k \/ v2.ownBlock = some k \/ v3.ownBlock = some k \/ v4.ownBlock = some k) \/ (u1.ownBlock = some k \/ u2.ownBlock = some k \/ u3.ownBlock = some k \/ u4.ownBlock = some k)) -> V'.heap[k]? = V.heap[k]?) : tD w0 B1 B2 gv hv v1 v2 v3 v4 u1 u2 u3 u4 n1 n2 n3 n4 m1 m2 m3 m4 X1 X2 X3 X4 Y1 Y2 Y3 Y4 V' :=
 ⟨h.ba.keep (hk _ (.inl rfl)), h.bb.keep (hk _ (.inr (.inl rfl))), zV h.r1 (fun k e => hk k (.inr (.inr (.inl (.inl e))))), zV h.r2 (fun k e => hk k (.inr (.inr (.inl (.inr (.inl e)))))), zV h.r3 (fun k e => hk k (.inr (.inr (.inl (.inr (.inr (.inl e))))))), zV h.r4 (fun k e => hk k (.inr (.inr (.inl (.inr (.inr (.inr e))))))), zV h.s1 (fun k e => hk k (.inr (.inr (.inr (.inl e))))), zV h.s2 (fun k e => hk k (.inr (.inr (.inr (.inr (.inl e)))))), zV h.s3 (fun k e => hk k (.inr (.inr (.inr (.inr (.inr (.inl e))))))), zV h.s4 (fun k e => hk k (.inr (.inr (.inr (.inr (.inr (.inr e))))))), h.n34, h.m34, h.lo, h.hi, h.hb, h.hB, Nat.le_trans h.big hs⟩
theorem tD.wr1 {w0 B1 B2 gv hv v1 v2 v3 v4 u1 u2 u3 u4 n1 n2 n3 n4 m1 m2 m3 m4 X1 X2 X3 X4 Y1 Y2 Y3 Y4} {V V' : World} {bx : Array Value} {X1' X2' X3' X4' : List Value} (h : tD w0 B1 B2 gv hv v1 v2 v3 v4 u1 u2 u3 u4 n1 n2 n3 n4 m1 m2 m3 m4 X1 X2 X3 X4 Y1 Y2 Y3 Y4 V) (hw : oW V B1 bx v1 v2 v3 v4 n1 n2 n3 n4 X1' X2' X3' X4' V') : tD w0 B1 B2 gv hv v1 v2 v3 v4 u1 u2 u3 u4 n1 n2 n3 n4 m1 m2 m3 m4 X1' X2' X3' X4' Y1 Y2 Y3 Y4 V' := by
 have hB := h.hB
 have hg := h.big
 have fr : ∀ k, k < V.heap.size -> B2 <= k -> V'.heap[k]? = V.heap[k]? := fun k hk hb => hw.fr k hk (fun e => by have := h.lo k (.inl e); omega) (fun e => by have := h.lo k (.inr (.inl e)); omega) (fun e => by have := h.lo k (.inr (.inr (.inl e))); omega) (fun e => by have := h.lo k (.inr (.inr (.inr e))); omega)
 exact ⟨h.ba.keep (fr _ (by omega) (by omega)), h.bb.keep (fr _ (by omega) (by omega)), hw.r1, hw.r2, hw.r3, hw.r4, zV h.s1 (fun k e => fr k (zR h.s1 k e) (zT h.s1 k e)), zV h.s2 (fun k e => fr k (zR h.s2 k e) (zT h.s2 k e)), zV h.s3 (fun k e => fr k (zR h.s3 k e) (zT h.s3 k e)), zV h.s4 (fun k e => fr k (zR h.s4 k e) (zT h.s4 k e)), h.n34, h.m34, h.lo, h.hi, h.hb, h.hB, Nat.le_trans h.big hw.bel.size⟩
theorem tD.wr2 {w0 B1 B2 gv hv v1 v2 v3 v4 u1 u2 u3 u4 n1 n2 n3 n4 m1 m2 m3 m4 X1 X2 X3 X4 Y1 Y2 Y3 Y4} {V V' : World} {bx : Array Value} {Y1' Y2' Y3' Y4' : List Value} (h : tD w0 B1 B2 gv hv v1 v2 v3 v4 u1 u2 u3 u4 n1 n2 n3 n4 m1 m2 m3 m4 X1 X2 X3 X4 Y1 Y2 Y3 Y4 V) (hw : oW V B2 bx u1 u2 u3 u4 m1 m2 m3 m4 Y1' Y2' Y3' Y4' V') : tD w0 B1 B2 gv hv v1 v2 v3 v4 u1 u2 u3 u4 n1 n2 n3 n4 m1 m2 m3 m4 X1 X2 X3 X4 Y1' Y2' Y3' Y4' V' := by
 have hB := h.hB
 have hg := h.big
 have fr : ∀ k, k < V.heap.size -> (k < B2 \/ w0 <= k) -> V'.heap[k]? = V.heap[k]? := fun k hk hb => hw.fr k hk (fun e => by have := h.up k (.inl e); have := h.hi k (.inl e); omega) (fun e => by have := h.up k (.inr (.inl e)); have := h.hi k (.inr (.inl e)); omega) (fun e => by have := h.up k (.inr (.inr (.inl e))); have := h.hi k (.inr (.inr (.inl e))); omega) (fun e => by have := h.up k (.inr (.inr (.inr e))); have := h.hi k (.inr (.inr (.inr e))); omega)
 exact ⟨h.ba.keep (fr _ (by omega) (by omega)), h.bb.keep (fr _ (by omega) (by omega)), zV h.r1 (fun k e => fr k (zR h.r1 k e) (.inl (h.lo k (.inl e)))), zV h.r2 (fun k e => fr k (zR h.r2 k e) (.inl (h.lo k (.inr (.inl e))))), zV h.r3 (fun k e => fr k (zR h.r3 k e) (.inl (h.lo k (.inr (.inr (.inl e)))))), zV h.r4 (fun k e => fr k (zR h.r4 k e) (.inl (h.lo k (.inr (.inr (.inr e)))))), hw.r1, hw.r2, hw.r3, hw.r4, h.n34, h.m34, h.lo, h.hi, h.hb, h.hB, Nat.le_trans h.big hw.bel.size⟩
def InX (x1 x2 x3 x4 : Option Addr) (g : Nat) : Prop := ∃ m, x1 = some ⟨g, m, none⟩ \/ x2 = some ⟨g, m, none⟩ \/ x3 = some ⟨g, m, none⟩ \/ x4 = some ⟨g, m, none⟩
structure fW (wr : World) (top : Nat) (x1 x2 x3 x4 : Option Addr) (n1 n2 n3 n4 d1 d2 d3 d4 : Nat) (y1 y2 y3 y4 : Option Addr) (e1 e2 e3 e4 t s : Nat) (g1 g2 g3 g4 : Nat) : Prop where
 y1 : y1 = some ⟨g1, 0, none⟩
 e1 : n1 + 16 <= e1
 y2 : y2 = some ⟨g2, 0, none⟩
 e2 : n2 + 16 <= e2
 y3 : y3 = some ⟨g3, 0, none⟩
 e3 : n3 + 16 <= e3
 y4 : y4 = some ⟨g4, 0, none⟩
 e4 : n4 + 16 <= e4
 old : UW wr x1 x2 x3 x4 n1 n2 n3 n4 t
 new : UW wr (some ⟨g1, n1 * 3, none⟩) (some ⟨g2, n2 * 5, none⟩) (some ⟨g3, n3 * 3, none⟩) (some ⟨g4, n4 * 3, none⟩) 16 16 16 16 s
 lt : ∀ g, (InX x1 x2 x3 x4 g \/ InX (some ⟨g1, n1 * 3, none⟩) (some ⟨g2, n2 * 5, none⟩) (some ⟨g3, n3 * 3, none⟩) (some ⟨g4, n4 * 3, none⟩) g) -> g < wr.heap.size /\ (((Value.slice x1 n1 d1).ownBlock = some g \/ (Value.slice x2 n2 d2).ownBlock = some g \/ (Value.slice x3 n3 d3).ownBlock = some g \/ (Value.slice x4 n4 d4).ownBlock = some g) \/ top <= g)
theorem fW.keep {wr wr' : World} {top : Nat} {x1 x2 x3 x4 n1 n2 n3 n4 d1 d2 d3 d4 y1 y2 y3 y4 e1 e2 e3 e4 t s g1 g2 g3 g4} (h : fW wr top x1 x2 x3 x4 n1 n2 n3 n4 d1 d2 d3 d4 y1 y2 y3 y4 e1 e2 e3 e4 t s g1 g2 g3 g4) (hs : wr.heap.size <= wr'.heap.size) (hk : ∀ k, k < wr.heap.size -> (((Value.slice x1 n1 d1).ownBlock = some k \/ (Value.slice x2 n2 d2).ownBlock = some k \/ (Value.slice x3 n3 d3).ownBlock = some k \/ (Value.slice x4 n4 d4).ownBlock = some k) \/ top <= k) -> wr'.heap[k]? = wr.heap[k]?) : fW wr' top x1 x2 x3 x4 n1 n2 n3 n4 d1 d2 d3 d4 y1 y2 y3 y4 e1 e2 e3 e4 t s g1 g2 g3 g4 :=
 ⟨h.y1, h.e1, h.y2, h.e2, h.y3, h.e3, h.y4, h.e4, h.old.keep fun g m e => hk g (h.lt g (.inl ⟨m, e⟩)).1 (h.lt g (.inl ⟨m, e⟩)).2, h.new.keep fun g m e => hk g (h.lt g (.inr ⟨m, e⟩)).1 (h.lt g (.inr ⟨m, e⟩)).2, fun g e => ⟨Nat.lt_of_lt_of_le (h.lt g e).1 hs, (h.lt g e).2⟩⟩
theorem fV {w wr : World} {B : Nat} {x1 x2 x3 x4 : Option Addr} {n1 n2 n3 n4 d1 d2 d3 d4 t s : Nat} {y1 y2 y3 y4 : Option Addr} {e1 e2 e3 e4 : Nat} (h1 : w.ownsRow B 61 3 (.slice x1 n1 d1) n1 (zD n1 (mA t))) (h2 : w.ownsRow B 64 5 (.slice x2 n2 d2) n2 (zD n2 (mE t))) (h3 : w.ownsRow B 83 3 (.slice x3 n3 d3) n3 (zD n3 (mP t 1))) (h4 : w.ownsRow B 83 3 (.slice x4 n4 d4) n4 (zD n4 (mP t 2)))
 (hg : GrF w B (.slice x1 n1 d1) (.slice x2 n2 d2) (.slice x3 n3 d3) (.slice x4 n4 d4) (zD n1 (mA t)) (zD n2 (mE t)) (zD n3 (mP t 1)) (zD n4 (mP t 2)) (.slice y1 (n1 + 16) e1) (.slice y2 (n2 + 16) e2) (.slice y3 (n3 + 16) e3) (.slice y4 (n4 + 16) e4) (n1 + 16) (n2 + 16) (n3 + 16) (n4 + 16) ((zD n1 (mA t)) ++ zD 16 (mA s)) ((zD n2 (mE t)) ++ zD 16 (mE s)) ((zD n3 (mP t 1)) ++ zD 16 (mP s 1)) ((zD n4 (mP t 2)) ++ zD 16 (mP s 2)) wr) : ∃ g1 g2 g3 g4, fW wr (w.heap.size + 2) x1 x2 x3 x4 n1 n2 n3 n4 d1 d2 d3 d4 y1 y2 y3 y4 e1 e2 e3 e4 t s g1 g2 g3 g4 := by
 obtain ⟨g1, hy1, he1, hl1, mk1⟩ := iW (m := (mA s)) (s := 3) rfl hg.r1
 obtain ⟨g2, hy2, he2, hl2, mk2⟩ := iW (m := (mE s)) (s := 5) rfl hg.r2
 obtain ⟨g3, hy3, he3, hl3, mk3⟩ := iW (m := (mP s 1)) (s := 3) rfl hg.r3
 obtain ⟨g4, hy4, he4, hl4, mk4⟩ := iW (m := (mP s 2)) (s := 3) rfl hg.r4
 have ob : ∀ {x : Option Addr} {n d g m : Nat}, x = some ⟨g, m, none⟩ -> (Value.slice x n d).ownBlock = some g := fun e => by rw [e]; rfl
 have hs := hg.bel.size
 refine ⟨g1, g2, g3, g4, hy1, he1, hy2, he2, hy3, he3, hy4, he4, TH h1 h2 h3 h4 hg.q1 hg.q2 hg.q3 hg.q4, ⟨mk1 1 _ (by decide) rfl, mk2 0 _ (by decide) rfl, mk3 1 _ (by decide) rfl, mk3 2 _ (by decide) rfl, mk4 1 _ (by decide) rfl, mk4 2 _ (by decide) rfl⟩, fun g e => ?_⟩
 rcases e with ⟨m, e | e | e | e⟩ | ⟨m, e | e | e | e⟩
 ·exact ⟨Nat.lt_of_lt_of_le (zR h1 g (ob e)) hs, .inl (.inl (ob e))⟩
 ·exact ⟨Nat.lt_of_lt_of_le (zR h2 g (ob e)) hs, .inl (.inr (.inl (ob e)))⟩
 ·exact ⟨Nat.lt_of_lt_of_le (zR h3 g (ob e)) hs, .inl (.inr (.inr (.inl (ob e))))⟩
 ·exact ⟨Nat.lt_of_lt_of_le (zR h4 g (ob e)) hs, .inl (.inr (.inr (.inr (ob e))))⟩
 ·cases e
  refine ⟨hl1, ?_⟩
  rcases hg.l1 g1 (by rw [hy1]; rfl) with q | q
  ·exact .inl (.inl q)
  exact .inr q
 ·cases e
  refine ⟨hl2, ?_⟩
  rcases hg.l2 g2 (by rw [hy2]; rfl) with q | q
  ·exact .inl (.inr (.inl q))
  exact .inr q
 ·cases e
  refine ⟨hl3, ?_⟩
  rcases hg.l3 g3 (by rw [hy3]; rfl) with q | q
  ·exact .inl (.inr (.inr (.inl q)))
  exact .inr q
 cases e
 refine ⟨hl4, ?_⟩
 rcases hg.l4 g4 (by rw [hy4]; rfl) with q | q
 ·exact .inl (.inr (.inr (.inr q)))
 exact .inr q
theorem nP (B1 B2 : Nat) (s1 s2 : ByteArray) (x1 x2 x3 x4 z1 z2 z3 z4 : Option Addr) (d1 d2 d3 d4 f1 f2 f3 f4 : Nat) (As Bs : List (GA × Value)) (Es Fs : List (GE × Value)) (Ps Os Qs Rs : List GP) (w : World)
 (h1 : sQ B1 w (.slice x1 As.length d1) (.slice x2 Es.length d2) (.slice x3 Ps.length d3) (.slice x4 Os.length d4) As Es Ps Os) (h2 : sQ B2 w (.slice z1 Bs.length f1) (.slice z2 Fs.length f2) (.slice z3 Qs.length f3) (.slice z4 Rs.length f4) Bs Fs Qs Rs) (hb : B1 <= B2) (hB : B2 <= w.heap.size)
 (hlo : ∀ k, ((Value.slice x1 As.length d1).ownBlock = some k \/ (Value.slice x2 Es.length d2).ownBlock = some k \/ (Value.slice x3 Ps.length d3).ownBlock = some k \/ (Value.slice x4 Os.length d4).ownBlock = some k) -> k < B2) (hel : ∀ p ∈ oY As Es, ∀ k, p.2.ownBlock = some k -> k < B2) (hsh : ∀ p ∈ oY As Es ++ oY Bs Fs, p.1.nums.length <= 17592186043904)
 (cA1 : As.length <= 200) (cB1 : Bs.length <= 200) (cA2 : Es.length <= 200) (cB2 : Fs.length <= 200) (cA3 : Ps.length <= 200) (cB3 : Qs.length <= 200) (cA4 : Os.length <= 200) (cB4 : Rs.length <= 200) :
 Calls Try.prog 11 #[.agg #[.string s1, .slice x1 As.length d1, .slice x2 Es.length d2, .slice x3 Ps.length d3, .slice x4 Os.length d4], .agg #[.string s2, .slice z1 Bs.length f1, .slice z2 Fs.length f2, .slice z3 Qs.length f3, .slice z4 Rs.length f4]] w (fun e w' => e = .returned (.bool true) /\ Below B1 w w') := by
 obtain ⟨n1, hn1⟩ : ∃ n, As.length = n := ⟨_, rfl⟩
 obtain ⟨m1, hm1⟩ : ∃ n, Bs.length = n := ⟨_, rfl⟩
 obtain ⟨n2, hn2⟩ : ∃ n, Es.length = n := ⟨_, rfl⟩
 obtain ⟨m2, hm2⟩ : ∃ n, Fs.length = n := ⟨_, rfl⟩
 obtain ⟨n3, hn3⟩ : ∃ n, Ps.length = n := ⟨_, rfl⟩
 obtain ⟨m3, hm3⟩ : ∃ n, Qs.length = n := ⟨_, rfl⟩
 obtain ⟨n4, hn4⟩ : ∃ n, Os.length = n := ⟨_, rfl⟩
 obtain ⟨m4, hm4⟩ : ∃ n, Rs.length = n := ⟨_, rfl⟩
 have sl1 := jR h1
 have sl2 := jR h2
 have RW0 := VM h1 h2 hb hel hsh
 have q1 := h1.rw
 have q2 := h2.rw
 have IN1 : Hid (∀ U, Below w.heap.size w U -> Calls Try.prog 28 #[.agg #[.string s1, .slice x1 As.length d1, .slice x2 Es.length d2, .slice x3 Ps.length d3, .slice x4 Os.length d4]] U (VO U (As.length + Es.length) (As.map Prod.snd ++ Es.map Prod.snd))) := fun U hU => jU B1 _ _ _ x1 x2 d1 d2 As Es U (zS q1.r1 hU) (zS q1.r2 hU) sl1.1 sl1.2.1 (by omega) (by omega)
 have IN2 : Hid (∀ U, Below w.heap.size w U -> Calls Try.prog 28 #[.agg #[.string s2, .slice z1 Bs.length f1, .slice z2 Fs.length f2, .slice z3 Qs.length f3, .slice z4 Rs.length f4]] U (VO U (Bs.length + Fs.length) (Bs.map Prod.snd ++ Fs.map Prod.snd))) := fun U hU => jU B2 _ _ _ z1 z2 f1 f2 Bs Fs U (zS q2.r1 hU) (zS q2.r2 hU) sl2.1 sl2.2.1 (by omega) (by omega)
 have ba := (Below.refl w.heap.size w).alloc (Nat.le_refl _) (.cells #[.string s1, .slice x1 As.length d1, .slice x2 Es.length d2, .slice x3 Ps.length d3, .slice x4 Os.length d4] 31)
 have bb := (Below.refl _ _).alloc (Nat.le_refl _) (.cells #[.string s2, .slice z1 Bs.length f1, .slice z2 Fs.length f2, .slice z3 Qs.length f3, .slice z4 Rs.length f4] 31) (w := w.alloc (.cells #[.string s1, .slice x1 As.length d1, .slice x2 Es.length d2, .slice x3 Ps.length d3, .slice x4 Os.length d4] 31))
 have bc := ba.trans (bb.mono ba.size)
 have hz : w.heap.size + 2 <= ((w.alloc (.cells #[.string s1, .slice x1 As.length d1, .slice x2 Es.length d2, .slice x3 Ps.length d3, .slice x4 Os.length d4] 31)).alloc (.cells #[.string s2, .slice z1 Bs.length f1, .slice z2 Fs.length f2, .slice z3 Qs.length f3, .slice z4 Rs.length f4] 31)).heap.size := by rw [World.size_alloc, World.size_alloc]; omega
 have T0 : Hid (tD w.heap.size B1 B2 #[.string s1, .slice x1 As.length d1, .slice x2 Es.length d2, .slice x3 Ps.length d3, .slice x4 Os.length d4] #[.string s2, .slice z1 Bs.length f1, .slice z2 Fs.length f2, .slice z3 Qs.length f3, .slice z4 Rs.length f4] (.slice x1 n1 d1) (.slice x2 n2 d2) (.slice x3 n3 d3) (.slice x4 n4 d4) (.slice z1 m1 f1) (.slice z2 m2 f2) (.slice z3 m3 f3) (.slice z4 m4 f4) n1 n2 n3 n4 m1 m2 m3 m4 (As.flatMap aP) (Es.flatMap eP) (Ps.flatMap pP) (Os.flatMap pP) (Bs.flatMap aP) (Fs.flatMap eP) (Qs.flatMap pP) (Rs.flatMap pP) ((w.alloc (.cells #[.string s1, .slice x1 As.length d1, .slice x2 Es.length d2, .slice x3 Ps.length d3, .slice x4 Os.length d4] 31)).alloc (.cells #[.string s2, .slice z1 Bs.length f1, .slice z2 Fs.length f2, .slice z3 Qs.length f3, .slice z4 Rs.length f4] 31))) := by
  have rb := zU 31 (w.alloc (.cells #[.string s1, .slice x1 As.length d1, .slice x2 Es.length d2, .slice x3 Ps.length d3, .slice x4 Os.length d4] 31)) #[.string s2, .slice z1 Bs.length f1, .slice z2 Fs.length f2, .slice z3 Qs.length f3, .slice z4 Rs.length f4]
  rw [World.size_alloc] at rb
  subst hn1 hn2 hn3 hn4 hm1 hm2 hm3 hm4
  exact ⟨(zU 31 w _).below bb, rb, zS q1.r1 bc, zS q1.r2 bc, zS q1.r3 bc, zS q1.r4 bc, zS q2.r1 bc, zS q2.r2 bc, zS q2.r3 bc, zS q2.r4 bc, q1.n34, q2.n34, hlo, fun k e => by
   rcases e with e | e | e | e
   ·exact zR q2.r1 k e
   ·exact zR q2.r2 k e
   ·exact zR q2.r3 k e
   exact zR q2.r4 k e, hb, hB, hz⟩
 have RW : Hid (Rws B1 ((w.alloc (.cells #[.string s1, .slice x1 As.length d1, .slice x2 Es.length d2, .slice x3 Ps.length d3, .slice x4 Os.length d4] 31)).alloc (.cells #[.string s2, .slice z1 Bs.length f1, .slice z2 Fs.length f2, .slice z3 Qs.length f3, .slice z4 Rs.length f4] 31)) (oY As Es ++ oY Bs Fs)) := ⟨fun p hp => (RW0.nums p hp).below bc, RW0.pair, RW0.short⟩
 have NL : Hid (∀ p ∈ (oY As Es ++ oY Bs Fs), ∀ k, p.2.ownBlock = some k -> k < w.heap.size) := fun p hp k e => zR (RW0.nums p hp) k e
 have LEN : Hid ((oY As Es ++ oY Bs Fs).length = n1 + n2 + (m1 + m2)) := by
  show List.length _ = _
  rw [List.length_append, dB, dB]
  omega
 have SND : Hid ((oY As Es ++ oY Bs Fs).map Prod.snd = (As.map Prod.snd ++ Es.map Prod.snd) ++ (Bs.map Prod.snd ++ Fs.map Prod.snd)) := by
  show List.map _ _ = _
  rw [List.map_append, iV, iV]
 have BC := zZ bc
 have ONE1 := zZ sl1.2.2
 have ONE2 := zZ sl2.2.2
 have HZ := zZ hz
 rw [hn1] at IN1 T0 RW BC HZ cA1 ⊢
 rw [hm1] at IN2 T0 RW BC HZ cB1 ⊢
 rw [hn2] at IN1 T0 RW BC HZ cA2 ⊢
 rw [hm2] at IN2 T0 RW BC HZ cB2 ⊢
 rw [hn3] at IN1 T0 RW BC HZ cA3 ⊢
 rw [hm3] at IN2 T0 RW BC HZ cB3 ⊢
 rw [hn4] at IN1 T0 RW BC HZ cA4 ⊢
 rw [hm4] at IN2 T0 RW BC HZ cB4 ⊢
 clear h1 h2 hlo hel hsh sl1 sl2 RW0 q1 q2 ba bb bc hz hn1 hn2 hn3 hn4 hm1 hm2 hm3 hm4
 go_enter Try.func11, Try.ntmps11
 go_upto_region 1 with fail
 generalize (w.alloc (.cells #[.string s1, .slice x1 n1 d1, .slice x2 n2 d2, .slice x3 n3 d3, .slice x4 n4 d4] 31)).alloc (.cells #[.string s2, .slice z1 m1 f1, .slice z2 m2 f2, .slice z3 m3 f3, .slice z4 m4 f4] 31) = W0 at *
 have a0 : W0.cell? ⟨w.heap.size, 0, none⟩ = some (.string s1) := T0.out.ba.cell rfl
 have a1 : W0.cell? ⟨w.heap.size, 1, none⟩ = some (.slice x1 n1 d1) := T0.out.ba.cell rfl
 have a2 : W0.cell? ⟨w.heap.size, 2, none⟩ = some (.slice x2 n2 d2) := T0.out.ba.cell rfl
 have a3 : W0.cell? ⟨w.heap.size, 3, none⟩ = some (.slice x3 n3 d3) := T0.out.ba.cell rfl
 have a4 : W0.cell? ⟨w.heap.size, 4, none⟩ = some (.slice x4 n4 d4) := T0.out.ba.cell rfl
 go_upto_region 3 with (first | (go_at_call 28; (with_reducible refine (IN1.out W0 BC.out).mono ?_); rintro e V1 ⟨u1, rfl, ho1, bw1⟩; have O1 := zZ ho1; have BW1 := zZ bw1; clear ho1 bw1) | (at_builtin; refine uI _ rfl (.tmp 8) (.tmp 10) rfl W0.heap.size W0.heap.size (.slice none 0 0) u1 0 (n1 + n2) [] _ rfl (World.ownsRow_nil _ _ _ _) rfl O1.out ONE1.out (by omega) BW1.out.size ?_; intro t5 V2 ho bw; have O2 := zZ ho; have BW2 := zZ (BW1.out.trans bw); clear ho bw))
 clear a0 a1 a2 a3 a4
 clear O1 BW1
 rw [List.nil_append, Nat.zero_add] at O2
 have b0 : V2.cell? ⟨w.heap.size + 1, 0, none⟩ = some (.string s2) := (T0.out.later BW2.out).bb.cell rfl
 have b1 : V2.cell? ⟨w.heap.size + 1, 1, none⟩ = some (.slice z1 m1 f1) := (T0.out.later BW2.out).bb.cell rfl
 have b2 : V2.cell? ⟨w.heap.size + 1, 2, none⟩ = some (.slice z2 m2 f2) := (T0.out.later BW2.out).bb.cell rfl
 have b3 : V2.cell? ⟨w.heap.size + 1, 3, none⟩ = some (.slice z3 m3 f3) := (T0.out.later BW2.out).bb.cell rfl
 have b4 : V2.cell? ⟨w.heap.size + 1, 4, none⟩ = some (.slice z4 m4 f4) := (T0.out.later BW2.out).bb.cell rfl
 go_upto_region 4 with (first | (go_at_call 28; (with_reducible refine (IN2.out V2 (BC.out.trans (BW2.out.mono BC.out.size))).mono ?_); rintro e V3 ⟨u2, rfl, ho3, bw3⟩; have O3 := zZ ho3; have BW3 := zZ bw3; clear ho3 bw3) | (at_builtin; refine uI _ rfl (.tmp 12) (.tmp 14) rfl W0.heap.size V2.heap.size t5 u2 (n1 + n2) (m1 + m2) _ _ rfl (zS O2.out BW3.out) rfl O3.out ONE2.out (by omega) (Nat.le_trans BW2.out.size BW3.out.size) ?_; intro t6 V4 ho bw; have O4 := zZ ho; have BW4 := zZ ((BW2.out.trans (BW3.out.mono BW2.out.size)).trans bw); clear ho bw))
 clear b0 b1 b2 b3 b4
 clear O3 BW3 O2 BW2 IN1 IN2 ONE1 ONE2
 rw [<- SND.out] at O4
 have AP : Hid (Calls Try.prog 29 #[t6] V4 fun e w' => e = .returned (.bool true) /\ Below B1 W0 w' /\ ∀ k, k < W0.heap.size -> (∀ p ∈ (oY As Es ++ oY Bs Fs), p.2.ownBlock ≠ some k) -> w'.heap[k]? = W0.heap[k]?) := bK B1 (n1 + n2 + (m1 + m2)) t6 W0 V4 (oY As Es ++ oY Bs Fs) LEN.out (by omega) O4.out BW4.out RW.out (by have := HZ.out; omega)
 go_upto_region 6 with (go_at_call 29; (with_reducible refine AP.out.mono ?_); rintro e w5 ⟨rfl, hb5, hk5⟩; have HB5 := zZ hb5; have HK5 := zZ hk5; clear hb5 hk5)
 have T5 : Hid (tD w.heap.size B1 B2 #[.string s1, .slice x1 n1 d1, .slice x2 n2 d2, .slice x3 n3 d3, .slice x4 n4 d4] #[.string s2, .slice z1 m1 f1, .slice z2 m2 f2, .slice z3 m3 f3, .slice z4 m4 f4] (.slice x1 n1 d1) (.slice x2 n2 d2) (.slice x3 n3 d3) (.slice x4 n4 d4) (.slice z1 m1 f1) (.slice z2 m2 f2) (.slice z3 m3 f3) (.slice z4 m4 f4) n1 n2 n3 n4 m1 m2 m3 m4 (As.flatMap aP) (Es.flatMap eP) (Ps.flatMap pP) (Os.flatMap pP) (Bs.flatMap aP) (Fs.flatMap eP) (Qs.flatMap pP) (Rs.flatMap pP) w5) := by
  have h0 := T0.out
  have hz := HZ.out
  have nl : ∀ p ∈ (oY As Es ++ oY Bs Fs), ∀ k, p.2.ownBlock = some k -> k < w.heap.size := NL.out
  refine h0.keep HB5.out.size fun k hk => HK5.out k ?_ fun p hp e => ?_
  ·rcases hk with rfl | rfl | hk | hk
   ·omega
   ·omega
   ·have := h0.lo k hk; omega
   have := h0.hi k hk; omega
  have hki := nl p hp k e
  have R := RW.out.nums p hp
  rcases hk with rfl | rfl | (hk | hk | hk | hk) | (hk | hk | hk | hk)
  ·omega
  ·omega
  ·exact zO h0.r1 R (by decide) k hk e
  ·exact zO h0.r2 R (by decide) k hk e
  ·exact zO h0.r3 R (by decide) k hk e
  ·exact zO h0.r4 R (by decide) k hk e
  ·exact zO h0.s1 R (by decide) k hk e
  ·exact zO h0.s2 R (by decide) k hk e
  ·exact zO h0.s3 R (by decide) k hk e
  exact zO h0.s4 R (by decide) k hk e
 have B5 : Hid (Below B1 w w5) := (BC.out.mono (by omega)).trans HB5.out
 clear AP HB5 HK5 O4 BW4 T0 RW NL LEN SND BC HZ
 have a0 : w5.cell? ⟨w.heap.size, 0, none⟩ = some (.string s1) := T5.out.ba.cell rfl
 have a1 : w5.cell? ⟨w.heap.size, 1, none⟩ = some (.slice x1 n1 d1) := T5.out.ba.cell rfl
 have a2 : w5.cell? ⟨w.heap.size, 2, none⟩ = some (.slice x2 n2 d2) := T5.out.ba.cell rfl
 have a3 : w5.cell? ⟨w.heap.size, 3, none⟩ = some (.slice x3 n3 d3) := T5.out.ba.cell rfl
 have a4 : w5.cell? ⟨w.heap.size, 4, none⟩ = some (.slice x4 n4 d4) := T5.out.ba.cell rfl
 have WA : Hid (Calls Try.prog 30 #[.agg #[.string s1, .slice x1 n1 d1, .slice x2 n2 d2, .slice x3 n3 d3, .slice x4 n4 d4], .int .i64 77] w5 (WrE w5 B1 #[.string s1, .slice x1 n1 d1, .slice x2 n2 d2, .slice x3 n3 d3, .slice x4 n4 d4] (.slice x1 n1 d1) (.slice x2 n2 d2) (.slice x3 n3 d3) (.slice x4 n4 d4) n1 n2 n3 n4 77)) := jT B1 _ x1 x2 x3 x4 n1 n2 n3 n4 d1 d2 d3 d4 77 _ _ _ _ w5 T5.out.r1 T5.out.r2 T5.out.r3 T5.out.r4 T5.out.n34 (Nat.le_trans hb (Nat.le_trans hB (Nat.le_trans (Nat.le_add_right _ 2) T5.out.big))) (by decide) (by omega) (by omega) (by omega) (by omega)
 go_upto_region 7 with (go_at_call 30; (with_reducible refine WA.out.mono ?_); rintro e w6 ⟨rfl, hs⟩; have T6 : Hid (tD w.heap.size B1 B2 #[.string s1, .slice x1 n1 d1, .slice x2 n2 d2, .slice x3 n3 d3, .slice x4 n4 d4] #[.string s2, .slice z1 m1 f1, .slice z2 m2 f2, .slice z3 m3 f3, .slice z4 m4 f4] (.slice x1 n1 d1) (.slice x2 n2 d2) (.slice x3 n3 d3) (.slice x4 n4 d4) (.slice z1 m1 f1) (.slice z2 m2 f2) (.slice z3 m3 f3) (.slice z4 m4 f4) n1 n2 n3 n4 m1 m2 m3 m4 (zD n1 (mA 77)) (zD n2 (mE 77)) (zD n3 (mP 77 1)) (zD n4 (mP 77 2)) (Bs.flatMap aP) (Fs.flatMap eP) (Qs.flatMap pP) (Rs.flatMap pP) w6) := T5.out.wr1 hs; have B6 : Hid (Below B1 w w6) := B5.out.trans hs.bel; clear hs)
 clear a0 a1 a2 a3 a4
 clear WA T5 B5
 have b0 : w6.cell? ⟨w.heap.size + 1, 0, none⟩ = some (.string s2) := T6.out.bb.cell rfl
 have b1 : w6.cell? ⟨w.heap.size + 1, 1, none⟩ = some (.slice z1 m1 f1) := T6.out.bb.cell rfl
 have b2 : w6.cell? ⟨w.heap.size + 1, 2, none⟩ = some (.slice z2 m2 f2) := T6.out.bb.cell rfl
 have b3 : w6.cell? ⟨w.heap.size + 1, 3, none⟩ = some (.slice z3 m3 f3) := T6.out.bb.cell rfl
 have b4 : w6.cell? ⟨w.heap.size + 1, 4, none⟩ = some (.slice z4 m4 f4) := T6.out.bb.cell rfl
 have WB : Hid (Calls Try.prog 30 #[.agg #[.string s2, .slice z1 m1 f1, .slice z2 m2 f2, .slice z3 m3 f3, .slice z4 m4 f4], .int .i64 78] w6 (WrE w6 B2 #[.string s2, .slice z1 m1 f1, .slice z2 m2 f2, .slice z3 m3 f3, .slice z4 m4 f4] (.slice z1 m1 f1) (.slice z2 m2 f2) (.slice z3 m3 f3) (.slice z4 m4 f4) m1 m2 m3 m4 78)) := jT B2 _ z1 z2 z3 z4 m1 m2 m3 m4 f1 f2 f3 f4 78 _ _ _ _ w6 T6.out.s1 T6.out.s2 T6.out.s3 T6.out.s4 T6.out.m34 (Nat.le_trans hB (Nat.le_trans (Nat.le_add_right _ 2) T6.out.big)) (by decide) (by omega) (by omega) (by omega) (by omega)
 go_upto_region 8 with (go_at_call 30; (with_reducible refine WB.out.mono ?_); rintro e w7 ⟨rfl, hs⟩; have T7 : Hid (tD w.heap.size B1 B2 #[.string s1, .slice x1 n1 d1, .slice x2 n2 d2, .slice x3 n3 d3, .slice x4 n4 d4] #[.string s2, .slice z1 m1 f1, .slice z2 m2 f2, .slice z3 m3 f3, .slice z4 m4 f4] (.slice x1 n1 d1) (.slice x2 n2 d2) (.slice x3 n3 d3) (.slice x4 n4 d4) (.slice z1 m1 f1) (.slice z2 m2 f2) (.slice z3 m3 f3) (.slice z4 m4 f4) n1 n2 n3 n4 m1 m2 m3 m4 (zD n1 (mA 77)) (zD n2 (mE 77)) (zD n3 (mP 77 1)) (zD n4 (mP 77 2)) (zD m1 (mA 78)) (zD m2 (mE 78)) (zD m3 (mP 78 1)) (zD m4 (mP 78 2)) w7) := T6.out.wr2 hs; have B7 : Hid (Below B1 w w7) := B6.out.trans (hs.bel.mono hb); clear hs)
 clear b0 b1 b2 b3 b4
 clear WB T6 B6
 have a0 : w7.cell? ⟨w.heap.size, 0, none⟩ = some (.string s1) := T7.out.ba.cell rfl
 have a1 : w7.cell? ⟨w.heap.size, 1, none⟩ = some (.slice x1 n1 d1) := T7.out.ba.cell rfl
 have a2 : w7.cell? ⟨w.heap.size, 2, none⟩ = some (.slice x2 n2 d2) := T7.out.ba.cell rfl
 have a3 : w7.cell? ⟨w.heap.size, 3, none⟩ = some (.slice x3 n3 d3) := T7.out.ba.cell rfl
 have a4 : w7.cell? ⟨w.heap.size, 4, none⟩ = some (.slice x4 n4 d4) := T7.out.ba.cell rfl
 have GA_ : Hid (Calls Try.prog 31 #[.agg #[.string s1, .slice x1 n1 d1, .slice x2 n2 d2, .slice x3 n3 d3, .slice x4 n4 d4], .int .i64 79] w7 (VN w7 B1 (.string s1) (.slice x1 n1 d1) (.slice x2 n2 d2) (.slice x3 n3 d3) (.slice x4 n4 d4) (zD n1 (mA 77)) (zD n2 (mE 77)) (zD n3 (mP 77 1)) (zD n4 (mP 77 2)) n1 n2 n3 n4 79)) := jS B1 (.string s1) x1 x2 x3 x4 n1 n2 n3 n4 d1 d2 d3 d4 79 _ _ _ _ w7 T7.out.r1 T7.out.r2 T7.out.r3 T7.out.r4 T7.out.n34 (Nat.le_trans hb (Nat.le_trans hB (Nat.le_trans (Nat.le_add_right _ 2) T7.out.big))) (by decide) (by omega) (by omega) (by omega) (by omega) rfl
 go_upto_region 9 with (go_at_call 31; (with_reducible refine GA_.out.mono ?_); rintro e w8 ⟨y1, y2, y3, y4, e1, e2, e3, e4, rfl, hs⟩; have F8 := zZ hs; clear hs)
 clear a0 a1 a2 a3 a4
 have E1 := fV (t := 77) (s := 79) T7.out.r1 T7.out.r2 T7.out.r3 T7.out.r4 F8.out
 obtain ⟨g1, g2, g3, g4, hG1⟩ := E1
 obtain ⟨hy1, hy2, hy3, hy4⟩ : y1 = some ⟨g1, 0, none⟩ /\ y2 = some ⟨g2, 0, none⟩ /\ y3 = some ⟨g3, 0, none⟩ /\ y4 = some ⟨g4, 0, none⟩ := ⟨hG1.y1, hG1.y2, hG1.y3, hG1.y4⟩
 subst hy1 hy2 hy3 hy4
 have TOP : Hid (w.heap.size + 2 <= w7.heap.size) := T7.out.big
 generalize htp : w7.heap.size + 2 = top at hG1
 have TP := zZ htp
 clear htp
 have G1 := zZ hG1
 clear hG1
 have bv := (Below.refl w8.heap.size w8).alloc (Nat.le_refl _) (.cells #[.string s1, .slice (some ⟨g1, 0, none⟩) (n1 + 16) e1, .slice (some ⟨g2, 0, none⟩) (n2 + 16) e2, .slice (some ⟨g3, 0, none⟩) (n3 + 16) e3, .slice (some ⟨g4, 0, none⟩) (n4 + 16) e4] 31)
 have C9 := zZ (zU 31 w8 #[.string s1, .slice (some ⟨g1, 0, none⟩) (n1 + 16) e1, .slice (some ⟨g2, 0, none⟩) (n2 + 16) e2, .slice (some ⟨g3, 0, none⟩) (n3 + 16) e3, .slice (some ⟨g4, 0, none⟩) (n4 + 16) e4])
 have S8 : Hid (zN 31 w.heap.size w8 #[.string s1, .slice x1 n1 d1, .slice x2 n2 d2, .slice x3 n3 d3, .slice x4 n4 d4] /\ zN 31 (w.heap.size + 1) w8 #[.string s2, .slice z1 m1 f1, .slice z2 m2 f2, .slice z3 m3 f3, .slice z4 m4 f4] /\ w8.ownsRow B2 61 3 (.slice z1 m1 f1) m1 (zD m1 (mA 78)) /\ w8.ownsRow B2 64 5 (.slice z2 m2 f2) m2 (zD m2 (mE 78)) /\ w8.ownsRow B2 83 3 (.slice z3 m3 f3) m3 (zD m3 (mP 78 1)) /\ w8.ownsRow B2 83 3 (.slice z4 m4 f4) m4 (zD m4 (mP 78 2))) := by
  have h7 := T7.out
  have hg := h7.big
  have hBB := h7.hB
  have fr : ∀ k, k < w7.heap.size -> B2 <= k -> w8.heap[k]? = w7.heap[k]? := fun k hk hbk => F8.out.fr k hk (fun e => by have := h7.lo k (.inl e); omega) (fun e => by have := h7.lo k (.inr (.inl e)); omega) (fun e => by have := h7.lo k (.inr (.inr (.inl e))); omega) (fun e => by have := h7.lo k (.inr (.inr (.inr e))); omega)
  exact ⟨h7.ba.keep (fr _ (by omega) (by omega)), h7.bb.keep (fr _ (by omega) (by omega)), zV h7.s1 (fun k e => fr k (zR h7.s1 k e) (zT h7.s1 k e)), zV h7.s2 (fun k e => fr k (zR h7.s2 k e) (zT h7.s2 k e)), zV h7.s3 (fun k e => fr k (zR h7.s3 k e) (zT h7.s3 k e)), zV h7.s4 (fun k e => fr k (zR h7.s4 k e) (zT h7.s4 k e))⟩
 have Z8 : Hid (w7.heap.size <= w8.heap.size) := F8.out.bel.size
 have B8 : Hid (Below B1 w w8) := B7.out.trans F8.out.bel
 have SEP : Hid ((∀ k, ((Value.slice x1 n1 d1).ownBlock = some k \/ (Value.slice x2 n2 d2).ownBlock = some k \/ (Value.slice x3 n3 d3).ownBlock = some k \/ (Value.slice x4 n4 d4).ownBlock = some k) -> k < B2) /\ (∀ k, ((Value.slice z1 m1 f1).ownBlock = some k \/ (Value.slice z2 m2 f2).ownBlock = some k \/ (Value.slice z3 m3 f3).ownBlock = some k \/ (Value.slice z4 m4 f4).ownBlock = some k) -> B2 <= k /\ k < w.heap.size) /\ NB (.slice z3 m3 f3) (.slice z4 m4 f4)) := ⟨T7.out.lo, fun k e => ⟨T7.out.up k e, T7.out.hi k e⟩, T7.out.m34⟩
 clear T7 B7 F8 GA_
 have BV := zZ bv
 clear bv
 generalize hq8 : w8.heap.size = q8 at *
 have Q8 : Hid (w8.heap.size = q8) := hq8
 clear hq8
 generalize w8.alloc (.cells #[.string s1, .slice (some ⟨g1, 0, none⟩) (n1 + 16) e1, .slice (some ⟨g2, 0, none⟩) (n2 + 16) e2, .slice (some ⟨g3, 0, none⟩) (n3 + 16) e3, .slice (some ⟨g4, 0, none⟩) (n4 + 16) e4] 31) = w9 at *
 have BV9 : Hid (Below w8.heap.size w8 w9) := by rw [Q8.out]; exact BV.out
 have S9 : Hid (zN 31 w.heap.size w9 #[.string s1, .slice x1 n1 d1, .slice x2 n2 d2, .slice x3 n3 d3, .slice x4 n4 d4] /\ zN 31 (w.heap.size + 1) w9 #[.string s2, .slice z1 m1 f1, .slice z2 m2 f2, .slice z3 m3 f3, .slice z4 m4 f4] /\ w9.ownsRow B2 61 3 (.slice z1 m1 f1) m1 (zD m1 (mA 78)) /\ w9.ownsRow B2 64 5 (.slice z2 m2 f2) m2 (zD m2 (mE 78)) /\ w9.ownsRow B2 83 3 (.slice z3 m3 f3) m3 (zD m3 (mP 78 1)) /\ w9.ownsRow B2 83 3 (.slice z4 m4 f4) m4 (zD m4 (mP 78 2))) := ⟨S8.out.1.below BV9.out, S8.out.2.1.below BV9.out, zS S8.out.2.2.1 BV9.out, zS S8.out.2.2.2.1 BV9.out, zS S8.out.2.2.2.2.1 BV9.out, zS S8.out.2.2.2.2.2 BV9.out⟩
 have B9 : Hid (Below B1 w w9) := B8.out.trans (BV9.out.mono (by have := TOP.out; have := Z8.out; have := Q8.out; omega))
 have G9 := zZ (G1.out.keep BV9.out.size fun k hk _ => BV9.out.block k hk)
 have Z9 : Hid (w.heap.size + 2 <= q8 /\ q8 < w9.heap.size /\ w7.heap.size <= q8) := ⟨Nat.le_trans TOP.out Z8.out, C9.out.lt, Z8.out⟩
 clear S8 B8 G1 BV BV9 Z8 Q8
 have b0 : w9.cell? ⟨w.heap.size + 1, 0, none⟩ = some (.string s2) := S9.out.2.1.cell rfl
 have b1 : w9.cell? ⟨w.heap.size + 1, 1, none⟩ = some (.slice z1 m1 f1) := S9.out.2.1.cell rfl
 have b2 : w9.cell? ⟨w.heap.size + 1, 2, none⟩ = some (.slice z2 m2 f2) := S9.out.2.1.cell rfl
 have b3 : w9.cell? ⟨w.heap.size + 1, 3, none⟩ = some (.slice z3 m3 f3) := S9.out.2.1.cell rfl
 have b4 : w9.cell? ⟨w.heap.size + 1, 4, none⟩ = some (.slice z4 m4 f4) := S9.out.2.1.cell rfl
 have GB_ : Hid (Calls Try.prog 31 #[.agg #[.string s2, .slice z1 m1 f1, .slice z2 m2 f2, .slice z3 m3 f3, .slice z4 m4 f4], .int .i64 80] w9 (VN w9 B2 (.string s2) (.slice z1 m1 f1) (.slice z2 m2 f2) (.slice z3 m3 f3) (.slice z4 m4 f4) (zD m1 (mA 78)) (zD m2 (mE 78)) (zD m3 (mP 78 1)) (zD m4 (mP 78 2)) m1 m2 m3 m4 80)) := jS B2 (.string s2) z1 z2 z3 z4 m1 m2 m3 m4 f1 f2 f3 f4 80 _ _ _ _ w9 S9.out.2.2.1 S9.out.2.2.2.1 S9.out.2.2.2.2.1 S9.out.2.2.2.2.2 SEP.out.2.2 (by have := Z9.out; omega) (by decide) (by omega) (by omega) (by omega) (by omega) rfl
 go_upto_region 10 with (go_at_call 31; (with_reducible refine GB_.out.mono ?_); rintro e w10 ⟨y1, y2, y3, y4, k1, k2, k3, k4, rfl, hs⟩; have F10 := zZ hs; clear hs)
 clear b0 b1 b2 b3 b4
 obtain ⟨j1, j2, j3, j4, hG2⟩ := fV (t := 78) (s := 80) S9.out.2.2.1 S9.out.2.2.2.1 S9.out.2.2.2.2.1 S9.out.2.2.2.2.2 F10.out
 obtain ⟨hy1, hy2, hy3, hy4⟩ : y1 = some ⟨j1, 0, none⟩ /\ y2 = some ⟨j2, 0, none⟩ /\ y3 = some ⟨j3, 0, none⟩ /\ y4 = some ⟨j4, 0, none⟩ := ⟨hG2.y1, hG2.y2, hG2.y3, hG2.y4⟩
 subst hy1 hy2 hy3 hy4
 have FR : Hid (∀ k, k < w9.heap.size -> (k < B2 \/ w.heap.size <= k) -> w10.heap[k]? = w9.heap[k]?) := fun k hk hbk => F10.out.fr k hk (fun e => by have := SEP.out.2.1 k (.inl e); omega) (fun e => by have := SEP.out.2.1 k (.inr (.inl e)); omega) (fun e => by have := SEP.out.2.1 k (.inr (.inr (.inl e))); omega) (fun e => by have := SEP.out.2.1 k (.inr (.inr (.inr e))); omega)
 have S10 : Hid (zN 31 w.heap.size w10 #[.string s1, .slice x1 n1 d1, .slice x2 n2 d2, .slice x3 n3 d3, .slice x4 n4 d4] /\ zN 31 (w.heap.size + 1) w10 #[.string s2, .slice z1 m1 f1, .slice z2 m2 f2, .slice z3 m3 f3, .slice z4 m4 f4] /\ zN 31 q8 w10 #[.string s1, .slice (some ⟨g1, 0, none⟩) (n1 + 16) e1, .slice (some ⟨g2, 0, none⟩) (n2 + 16) e2, .slice (some ⟨g3, 0, none⟩) (n3 + 16) e3, .slice (some ⟨g4, 0, none⟩) (n4 + 16) e4]) := by
  have z := Z9.out
  exact ⟨S9.out.1.keep (FR.out _ (by omega) (by omega)), S9.out.2.1.keep (FR.out _ (by omega) (by omega)), C9.out.keep (FR.out _ (by omega) (by omega))⟩
 have G10 : Hid (fW w10 top x1 x2 x3 x4 n1 n2 n3 n4 d1 d2 d3 d4 (some ⟨g1, 0, none⟩) (some ⟨g2, 0, none⟩) (some ⟨g3, 0, none⟩) (some ⟨g4, 0, none⟩) e1 e2 e3 e4 77 79 g1 g2 g3 g4) := G9.out.keep F10.out.bel.size fun k hk e => FR.out k hk (by
  rcases e with e | e
  ·exact .inl (SEP.out.1 k e)
  have := TOP.out; have := TP.out; omega)
 have H10 := zZ hG2
 clear hG2
 have bv := (Below.refl w10.heap.size w10).alloc (Nat.le_refl _) (.cells #[.string s2, .slice (some ⟨j1, 0, none⟩) (m1 + 16) k1, .slice (some ⟨j2, 0, none⟩) (m2 + 16) k2, .slice (some ⟨j3, 0, none⟩) (m3 + 16) k3, .slice (some ⟨j4, 0, none⟩) (m4 + 16) k4] 31)
 have D11 := zZ (zU 31 w10 #[.string s2, .slice (some ⟨j1, 0, none⟩) (m1 + 16) k1, .slice (some ⟨j2, 0, none⟩) (m2 + 16) k2, .slice (some ⟨j3, 0, none⟩) (m3 + 16) k3, .slice (some ⟨j4, 0, none⟩) (m4 + 16) k4])
 have A11 := zZ (S10.out.1.below bv)
 have N11 := zZ (S10.out.2.1.below bv)
 have C11 := zZ (S10.out.2.2.below bv)
 have G11 := zZ (G10.out.keep bv.size fun k hk _ => bv.block k hk)
 have H11 := zZ (H10.out.keep bv.size fun k hk _ => bv.block k hk)
 have B11 := zZ (B9.out.trans ((F10.out.bel.mono hb).trans (bv.mono (by have := F10.out.bel.size; have := B9.out.size; omega))))
 clear bv GB_ F10 S9 S10 G9 G10 H10 B9 FR Z9 C9 SEP TOP TP
 generalize w10.heap.size = q10 at *
 generalize w10.alloc (.cells #[.string s2, .slice (some ⟨j1, 0, none⟩) (m1 + 16) k1, .slice (some ⟨j2, 0, none⟩) (m2 + 16) k2, .slice (some ⟨j3, 0, none⟩) (m3 + 16) k3, .slice (some ⟨j4, 0, none⟩) (m4 + 16) k4] 31) = w11 at *
 have MA_ : Hid (∀ U, Below w11.heap.size w11 U -> Calls Try.prog 32 #[.agg #[.string s1, .slice x1 n1 d1, .slice x2 n2 d2, .slice x3 n3 d3, .slice x4 n4 d4], .int .i64 77] U fun e w' => e = .returned (.bool true) /\ Below U.heap.size U w') := fun U hU => sM _ x1 x2 x3 x4 n1 n2 n3 n4 d1 d2 d3 d4 77 U (G11.out.old.keep fun g m e => hU.block g (G11.out.lt g (.inl ⟨m, e⟩)).1) (fun g m e => Nat.lt_of_lt_of_le (G11.out.lt g (.inl ⟨m, e⟩)).1 hU.size) (by decide) (by omega) (by omega) (by omega) (by omega)
 have MB_ : Hid (∀ U, Below w11.heap.size w11 U -> Calls Try.prog 32 #[.agg #[.string s2, .slice z1 m1 f1, .slice z2 m2 f2, .slice z3 m3 f3, .slice z4 m4 f4], .int .i64 78] U fun e w' => e = .returned (.bool true) /\ Below U.heap.size U w') := fun U hU => sM _ z1 z2 z3 z4 m1 m2 m3 m4 f1 f2 f3 f4 78 U (H11.out.old.keep fun g m e => hU.block g (H11.out.lt g (.inl ⟨m, e⟩)).1) (fun g m e => Nat.lt_of_lt_of_le (H11.out.lt g (.inl ⟨m, e⟩)).1 hU.size) (by decide) (by omega) (by omega) (by omega) (by omega)
 have MC_ : Hid (∀ U, Below w11.heap.size w11 U -> Calls Try.prog 32 #[.agg #[.string ⟨#[]⟩, .slice (some ⟨g1, n1 * 3, none⟩) 16 (e1 - n1), .slice (some ⟨g2, n2 * 5, none⟩) 16 (e2 - n2), .slice (some ⟨g3, n3 * 3, none⟩) 16 (e3 - n3), .slice (some ⟨g4, n4 * 3, none⟩) 16 (e4 - n4)], .int .i64 79] U fun e w' => e = .returned (.bool true) /\ Below U.heap.size U w') := fun U hU => sM _ _ _ _ _ 16 16 16 16 _ _ _ _ 79 U (G11.out.new.keep fun g m e => hU.block g (G11.out.lt g (.inr ⟨m, e⟩)).1) (fun g m e => Nat.lt_of_lt_of_le (G11.out.lt g (.inr ⟨m, e⟩)).1 hU.size) (by decide) (by omega) (by omega) (by omega) (by omega)
 have MD_ : Hid (∀ U, Below w11.heap.size w11 U -> Calls Try.prog 32 #[.agg #[.string ⟨#[]⟩, .slice (some ⟨j1, m1 * 3, none⟩) 16 (k1 - m1), .slice (some ⟨j2, m2 * 5, none⟩) 16 (k2 - m2), .slice (some ⟨j3, m3 * 3, none⟩) 16 (k3 - m3), .slice (some ⟨j4, m4 * 3, none⟩) 16 (k4 - m4)], .int .i64 80] U fun e w' => e = .returned (.bool true) /\ Below U.heap.size U w') := fun U hU => sM _ _ _ _ _ 16 16 16 16 _ _ _ _ 80 U (H11.out.new.keep fun g m e => hU.block g (H11.out.lt g (.inr ⟨m, e⟩)).1) (fun g m e => Nat.lt_of_lt_of_le (H11.out.lt g (.inr ⟨m, e⟩)).1 hU.size) (by decide) (by omega) (by omega) (by omega) (by omega)
 have BC_ : Hid (∀ U, Calls Try.prog 33 #[.agg #[.string s1, .slice (some ⟨g1, 0, none⟩) (n1 + 16) e1, .slice (some ⟨g2, 0, none⟩) (n2 + 16) e2, .slice (some ⟨g3, 0, none⟩) (n3 + 16) e3, .slice (some ⟨g4, 0, none⟩) (n4 + 16) e4], .agg #[.string s1, .slice x1 n1 d1, .slice x2 n2 d2, .slice x3 n3 d3, .slice x4 n4 d4]] U fun e w' => e = .returned (.agg #[.string ⟨#[]⟩, .slice (some ⟨g1, n1 * 3, none⟩) 16 (e1 - n1), .slice (some ⟨g2, n2 * 5, none⟩) 16 (e2 - n2), .slice (some ⟨g3, n3 * 3, none⟩) 16 (e3 - n3), .slice (some ⟨g4, n4 * 3, none⟩) 16 (e4 - n4)]) /\ Below U.heap.size U w') := fun U => lM _ _ x1 x2 x3 x4 n1 n2 n3 n4 d1 d2 d3 d4 g1 g2 g3 g4 e1 e2 e3 e4 U G11.out.e1 G11.out.e2 G11.out.e3 G11.out.e4
 have BD_ : Hid (∀ U, Calls Try.prog 33 #[.agg #[.string s2, .slice (some ⟨j1, 0, none⟩) (m1 + 16) k1, .slice (some ⟨j2, 0, none⟩) (m2 + 16) k2, .slice (some ⟨j3, 0, none⟩) (m3 + 16) k3, .slice (some ⟨j4, 0, none⟩) (m4 + 16) k4], .agg #[.string s2, .slice z1 m1 f1, .slice z2 m2 f2, .slice z3 m3 f3, .slice z4 m4 f4]] U fun e w' => e = .returned (.agg #[.string ⟨#[]⟩, .slice (some ⟨j1, m1 * 3, none⟩) 16 (k1 - m1), .slice (some ⟨j2, m2 * 5, none⟩) 16 (k2 - m2), .slice (some ⟨j3, m3 * 3, none⟩) 16 (k3 - m3), .slice (some ⟨j4, m4 * 3, none⟩) 16 (k4 - m4)]) /\ Below U.heap.size U w') := fun U => lM _ _ z1 z2 z3 z4 m1 m2 m3 m4 f1 f2 f3 f4 j1 j2 j3 j4 k1 k2 k3 k4 U H11.out.e1 H11.out.e2 H11.out.e3 H11.out.e4
 clear G11 H11
 have U0 := zZ (Below.refl w11.heap.size w11)
 have a0 : w11.cell? ⟨w.heap.size, 0, none⟩ = some (.string s1) := A11.out.cell rfl
 have a1 : w11.cell? ⟨w.heap.size, 1, none⟩ = some (.slice x1 n1 d1) := A11.out.cell rfl
 have a2 : w11.cell? ⟨w.heap.size, 2, none⟩ = some (.slice x2 n2 d2) := A11.out.cell rfl
 have a3 : w11.cell? ⟨w.heap.size, 3, none⟩ = some (.slice x3 n3 d3) := A11.out.cell rfl
 have a4 : w11.cell? ⟨w.heap.size, 4, none⟩ = some (.slice x4 n4 d4) := A11.out.cell rfl
 go_wp2_with (first | (go_at_call 32; (with_reducible refine (MA_.out _ U0.out).mono ?_); rintro e p1 ⟨rfl, bx⟩; have U1 := zZ (U0.out.trans (bx.mono U0.out.size)); clear bx; clear a0 a1 a2 a3 a4; have b0 : p1.cell? ⟨w.heap.size + 1, 0, none⟩ = some (.string s2) := (N11.out.below U1.out).cell rfl; have b1 : p1.cell? ⟨w.heap.size + 1, 1, none⟩ = some (.slice z1 m1 f1) := (N11.out.below U1.out).cell rfl; have b2 : p1.cell? ⟨w.heap.size + 1, 2, none⟩ = some (.slice z2 m2 f2) := (N11.out.below U1.out).cell rfl; have b3 : p1.cell? ⟨w.heap.size + 1, 3, none⟩ = some (.slice z3 m3 f3) := (N11.out.below U1.out).cell rfl; have b4 : p1.cell? ⟨w.heap.size + 1, 4, none⟩ = some (.slice z4 m4 f4) := (N11.out.below U1.out).cell rfl) | (go_at_call 32; (with_reducible refine (MB_.out _ U1.out).mono ?_); rintro e p2 ⟨rfl, bx⟩; have U2 := zZ (U1.out.trans (bx.mono U1.out.size)); clear bx; clear b0 b1 b2 b3 b4; have c0 : p2.cell? ⟨q8, 0, none⟩ = some (.string s1) := (C11.out.below U2.out).cell rfl; have c1 : p2.cell? ⟨q8, 1, none⟩ = some (.slice (some ⟨g1, 0, none⟩) (n1 + 16) e1) := (C11.out.below U2.out).cell rfl; have c2 : p2.cell? ⟨q8, 2, none⟩ = some (.slice (some ⟨g2, 0, none⟩) (n2 + 16) e2) := (C11.out.below U2.out).cell rfl; have c3 : p2.cell? ⟨q8, 3, none⟩ = some (.slice (some ⟨g3, 0, none⟩) (n3 + 16) e3) := (C11.out.below U2.out).cell rfl; have c4 : p2.cell? ⟨q8, 4, none⟩ = some (.slice (some ⟨g4, 0, none⟩) (n4 + 16) e4) := (C11.out.below U2.out).cell rfl; have a0 : p2.cell? ⟨w.heap.size, 0, none⟩ = some (.string s1) := (A11.out.below U2.out).cell rfl; have a1 : p2.cell? ⟨w.heap.size, 1, none⟩ = some (.slice x1 n1 d1) := (A11.out.below U2.out).cell rfl; have a2 : p2.cell? ⟨w.heap.size, 2, none⟩ = some (.slice x2 n2 d2) := (A11.out.below U2.out).cell rfl; have a3 : p2.cell? ⟨w.heap.size, 3, none⟩ = some (.slice x3 n3 d3) := (A11.out.below U2.out).cell rfl; have a4 : p2.cell? ⟨w.heap.size, 4, none⟩ = some (.slice x4 n4 d4) := (A11.out.below U2.out).cell rfl) | (go_at_call 33; (with_reducible refine (BC_.out _).mono ?_); rintro e p3 ⟨rfl, bx⟩; have U3 := zZ (U2.out.trans (bx.mono U2.out.size)); clear bx; clear c0 c1 c2 c3 c4 a0 a1 a2 a3 a4) | (go_at_call 32; (with_reducible refine (MC_.out _ U3.out).mono ?_); rintro e p4 ⟨rfl, bx⟩; have U4 := zZ (U3.out.trans (bx.mono U3.out.size)); clear bx; have c0 : p4.cell? ⟨q10, 0, none⟩ = some (.string s2) := (D11.out.below U4.out).cell rfl; have c1 : p4.cell? ⟨q10, 1, none⟩ = some (.slice (some ⟨j1, 0, none⟩) (m1 + 16) k1) := (D11.out.below U4.out).cell rfl; have c2 : p4.cell? ⟨q10, 2, none⟩ = some (.slice (some ⟨j2, 0, none⟩) (m2 + 16) k2) := (D11.out.below U4.out).cell rfl; have c3 : p4.cell? ⟨q10, 3, none⟩ = some (.slice (some ⟨j3, 0, none⟩) (m3 + 16) k3) := (D11.out.below U4.out).cell rfl; have c4 : p4.cell? ⟨q10, 4, none⟩ = some (.slice (some ⟨j4, 0, none⟩) (m4 + 16) k4) := (D11.out.below U4.out).cell rfl; have b0 : p4.cell? ⟨w.heap.size + 1, 0, none⟩ = some (.string s2) := (N11.out.below U4.out).cell rfl; have b1 : p4.cell? ⟨w.heap.size + 1, 1, none⟩ = some (.slice z1 m1 f1) := (N11.out.below U4.out).cell rfl; have b2 : p4.cell? ⟨w.heap.size + 1, 2, none⟩ = some (.slice z2 m2 f2) := (N11.out.below U4.out).cell rfl; have b3 : p4.cell? ⟨w.heap.size + 1, 3, none⟩ = some (.slice z3 m3 f3) := (N11.out.below U4.out).cell rfl; have b4 : p4.cell? ⟨w.heap.size + 1, 4, none⟩ = some (.slice z4 m4 f4) := (N11.out.below U4.out).cell rfl) | (go_at_call 33; (with_reducible refine (BD_.out _).mono ?_); rintro e p5 ⟨rfl, bx⟩; have U5 := zZ (U4.out.trans (bx.mono U4.out.size)); clear bx; clear c0 c1 c2 c3 c4 b0 b1 b2 b3 b4) | (go_at_call 32; (with_reducible refine (MD_.out _ U5.out).mono ?_); rintro e p6 ⟨rfl, bx⟩; have U6 := zZ (U5.out.trans (bx.mono U5.out.size)); clear bx))
 refine bodyPost_ret (v := .bool true) (by simp [results, Try.results11, go_sem]) rfl ?_
 exact ⟨rfl, B11.out.trans (U6.out.mono (by have := B11.out.size; omega))⟩
theorem fU {L M : List (yO × Value)} (h : M.map Prod.fst = L.map Prod.fst) {p : yO × Value} (hp : p ∈ M) : ∃ q ∈ L, q.1 = p.1 := by
 have q : p.1 ∈ L.map Prod.fst := by rw [<- h]; exact List.mem_map_of_mem hp
 obtain ⟨y, hy, e⟩ := List.mem_map.1 q
 exact ⟨y, hy, e⟩
def TF (nm : List UInt8) (K : List yO) (u : World) (v : Value) : Prop := ∃ a c M, v = .agg #[.string (zW nm), .slice a M.length c] /\ M.map Prod.fst = K /\ nS u a M /\ bZ u M
theorem TF.later {nm : List UInt8} {K : List yO} {u u' : World} {v : Value} (h : TF nm K u v) (hb : Below u.heap.size u u') : TF nm K u' v := by
 obtain ⟨a, c, M, h1, h2, h3, h4⟩ := h
 exact ⟨a, c, M, h1, h2, h3.below hb, h4.below hb⟩
def BldY (nm : List UInt8) (G : GG) (w : World) (e : Ending) (w' : World) : Prop := ∃ z1 z2 z3 z4 f1 f2 f3 f4, e = .returned (.tuple #[.agg #[.string (zW nm), .slice z1 G.A.length f1, .slice z2 G.E.length f2, .slice z3 G.ins.length f3, .slice z4 G.outs.length f4], .agg #[.int .i64 0, .int .i64 0]]) /\ sH w' z1 z2 z3 z4 G /\ Below w.heap.size w w'
theorem pY {nm : List UInt8} {K : List yO} (h : (yI nm K).2.1 = 0) : yI nm K = (yT nm K, 0, 0) /\ (yZ (yT nm K)).code = 0 := by
 unfold yI at h ⊢
 by_cases h1 : 0 <= vQ K 0
 ·rw [if_pos h1] at h; exact absurd (show (1 : Int) = 0 from h) (by decide)
 rw [if_neg h1] at h ⊢
 by_cases h2 : (yZ (yT nm K)).code ≠ 0
 ·rw [if_pos h2] at h; exact absurd h h2
 rw [if_neg h2]; exact ⟨rfl, Decidable.not_not.1 h2⟩
theorem lL : ∀ (K : List yO) (i j : Nat), j < K.length -> (∀ k, k < j -> xH (K.getD k nY) = false) -> xH (K.getD j nY) = true -> vQ K i = ((i + j : Nat) : Int)
 | [], _, _, h, _, _ => absurd h (Nat.not_lt_zero _)
 | x :: r, i, 0, _, _, h2 => by
  have h3 : xH x = true := h2
  show (if xH x = true then (i : Int) else _) = _
  rw [if_pos h3]; rfl
 | x :: r, i, j + 1, h, h1, h2 => by
  have h3 : xH x = false := h1 0 (by omega)
  show (if xH x = true then (i : Int) else vQ r (i + 1)) = _
  rw [if_neg (by rw [h3]; decide), lL r (i + 1) j (by simpa using h) (fun k hk => h1 (k + 1) (by omega)) h2]
  congr 1; omega
theorem iU {L : List (yO × Value)} {k : Nat} (h : k < L.length) : (L.map Prod.fst).getD k nY = (yV L k).1 := by
 unfold yV
 rw [List.getD_eq_getElem?_getD, List.getD_eq_getElem?_getD, List.getElem?_map, List.getElem?_eq_getElem h]
 rfl
theorem bJ (nm : List UInt8) {L : List (yO × Value)} {j : Nat} (h : j < L.length) (h1 : ∀ k, k < j -> xH (yV L k).1 = false) (h2 : xH (yV L j).1 = true) : (yI nm (L.map Prod.fst)).2 = (1, (yV L j).1.place) := by
 have e : vQ (L.map Prod.fst) 0 = (j : Int) := by
  have q := lL (L.map Prod.fst) 0 j (by simpa using h) (fun k hk => by rw [iU (by omega)]; exact h1 k hk) (by rw [iU h]; exact h2)
  rw [Nat.zero_add] at q
  exact q
 unfold yI
 rw [e, if_pos (by omega), Int.toNat_natCast, iU h]
theorem YM {L : List (yO × Value)} (h : ∀ k, k < L.length -> xH (yV L k).1 = false) : (∀ x ∈ L.map Prod.fst, xH x = false) /\ ∀ p ∈ L, 1 <= p.1.kind /\ p.1.kind <= 4 := by
 have q : ∀ p ∈ L, xH p.1 = false := fun p hp => by
  obtain ⟨k, hk, e⟩ := List.getElem_of_mem hp
  have := h k hk
  unfold yV at this
  rw [List.getD_eq_getElem?_getD, List.getElem?_eq_getElem hk] at this
  rw [<- e]; exact this
 refine ⟨fun x hx => ?_, fun p hp => ?_⟩
 ·obtain ⟨p, hp, rfl⟩ := List.mem_map.1 hx
  exact q p hp
 have := q p hp
 unfold xH at this
 simp at this
 omega
theorem VL {w : World} {a1 a2 a3 a4 : Option Addr} {g : GG} (h : sH w a1 a2 a3 a4 g) : (∀ x ∈ g.A, x.params.length <= 4611686018427387904) /\ ∀ x ∈ g.E, x.start.length <= 4611686018427387904 := by
 have q := h.nums
 exact ⟨fun x hx => by have := (q.1 x hx).2.2; omega, fun x hx => by have := (q.2 x hx).2; omega⟩
theorem bH {M : List (yO × Value)} {q : yO × Value} {k : Nat} (h : k < M.length) : yV (M ++ [q]) k = yV M k := by
 unfold yV; rw [List.getD_eq_getElem?_getD, List.getD_eq_getElem?_getD, List.getElem?_append_left h]
theorem bF {M : List (yO × Value)} {q : yO × Value} {k : Nat} (h : M.length = k) : yV (M ++ [q]) k = q := by
 unfold yV; rw [List.getD_eq_getElem?_getD, List.getElem?_append_right (by omega), h, Nat.sub_self]; rfl
theorem bE (nm : List UInt8) (b1 b2 : Option Addr) (n c1 c2 B : Nat) (M L : List (yO × Value)) (w : World) (hM : M.length = n) (hs : M.map Prod.fst = L.map Prod.fst) (h1 : nS w b1 (M ++ [(oZ, Value.slice none 0 0)])) (hLM : LM B w M) (hc1 : n + 1 <= c1) (hA : mC w b2 n L) (hl : n <= 1048576) (hm : ∀ p ∈ L, p.1.nums.length <= 1048576) :
 Calls Try.prog 9 #[.agg #[.string (zW nm), .slice b1 n c1], .agg #[.string (zW nm), .slice b2 n c2]] w fun e w' => e = .returned (.bool true) /\ Below w.heap.size w w' := by
 have hb0 := ((Below.refl w.heap.size w).alloc (Nat.le_refl _) (.cells #[.string (zW nm), .slice b1 n c1] 24)).alloc (by simp) (.cells #[.string (zW nm), .slice b2 n c2] 24)
 have hk1 := (zU 24 w #[.string (zW nm), .slice b1 n c1]).below ((Below.refl _ _).alloc (Nat.le_refl _) (.cells #[.string (zW nm), .slice b2 n c2] 24))
 have hk2 : zN 24 (w.heap.size + 1) ((w.alloc (.cells #[.string (zW nm), .slice b1 n c1] 24)).alloc (.cells #[.string (zW nm), .slice b2 n c2] 24)) #[.string (zW nm), .slice b2 n c2] := by
  have h3 := zU 24 (w.alloc (.cells #[.string (zW nm), .slice b1 n c1] 24)) #[.string (zW nm), .slice b2 n c2]
  have h4 : (w.alloc (.cells #[.string (zW nm), .slice b1 n c1] 24)).heap.size = w.heap.size + 1 := by simp
  rw [h4] at h3
  exact h3
 have hL := hA.size
 have HR1 := zZ (h1.below hb0)
 have HA := zZ (hA.below hb0)
 have HLM := zZ (hLM.below hb0)
 have HSN := zZ (fZ hs)
 have HSA : Hid (∀ W, Below ((w.alloc (.cells #[.string (zW nm), .slice b1 n c1] 24)).alloc (.cells #[.string (zW nm), .slice b2 n c2] 24)).heap.size ((w.alloc (.cells #[.string (zW nm), .slice b1 n c1] 24)).alloc (.cells #[.string (zW nm), .slice b2 n c2] 24)) W -> Calls Try.prog 23 #[.agg #[.string (zW nm), .slice b1 n c1], .agg #[.string (zW nm), .slice b2 n c2]] W fun e w' => e = .returned (.bool true) /\ Below W.heap.size W w') := fun W hb => bL nm b1 b2 n c1 c2 M L W hM hL hs ((HR1.out.below hb).pre) (HA.out.lies.below hb) (by omega) (fun p hp => Nat.le_trans (hm p hp) (by decide))
 have hnI : (n : Int) <= 1048576 := by omega
 have hcI : (n : Int) + 1 <= (c1 : Int) := by omega
 have HM := zZ hm
 have HB0 := zZ hb0
 clear h1 hs hA hLM hm
 go_enter Try.func9, Try.ntmps9
 go_upto_region 1 with fail
 generalize (w.alloc (.cells #[.string (zW nm), .slice b1 n c1] 24)).alloc (.cells #[.string (zW nm), .slice b2 n c2] 24) = W0 at *
 have y10 : W0.cell? ⟨w.heap.size, 0, none⟩ = some (.string (zW nm)) := hk1.cell (k := 0) rfl
 have y20 : W0.cell? ⟨w.heap.size + 1, 0, none⟩ = some (.string (zW nm)) := hk2.cell (k := 0) rfl
 have y1 : W0.cell? ⟨w.heap.size, 1, none⟩ = some (.slice b1 n c1) := hk1.cell (k := 1) rfl
 have y2 : W0.cell? ⟨w.heap.size + 1, 1, none⟩ = some (.slice b2 n c2) := hk2.cell (k := 1) rfl
 have Y1 := zZ y1
 have Y2 := zZ y2
 clear hk1 hk2 hb0
 go_wp2_with (go_at_call 23; (with_reducible refine (HSA.out _ (Below.refl _ _)).mono ?_); rintro e w1 ⟨rfl, b1'⟩; have BS := zZ b1'; clear b1')
 clear y10 y20 y1 y2
 go_loopg [5] n (fun gk v wr => ∃ (k : Nat), k <= n /\ gk = n - k /\ v = .int .i64 (k : Int) /\ Below W0.heap.size W0 wr)
 case atStart => exact ⟨0, Nat.zero_le _, rfl, rfl, BS.out⟩
 case round =>
  clear BS
  obtain ⟨k, hk, rfl, rfl, hbe⟩ := hrel
  have HBE := zZ hbe
  have y1 := zX hbe Y1.out
  have y2 := zX hbe Y2.out
  clear hbe
  have i1 := HR1.out.below HBE.out
  rcases i1.lie with e | ⟨g1, o1, rfl, q1⟩
  ·exact absurd (congrArg List.length e) (by simp)
  by_cases hlt : k < n
  ·have hki : (k : Int) < (n : Int) := by omega
   have i2 := HA.out.below HBE.out
   rcases i2.lies.lie with e | ⟨g2, o2, rfl, q2⟩
   ·rw [e] at hL; simp at hL; omega
   have c3 := (q1 k (by simp; omega)).c3
   rw [bH (by omega)] at c3
   have d3 := (q2 k (by omega)).c3
   have hmem := yJ (L := L) (k := k) (by omega)
   obtain ⟨gl, -, -, e1, hat⟩ := (HLM.out.below HBE.out) _ (yJ (L := M) (k := k) (by omega))
   obtain ⟨ra, rc, e2, hnone, hroom⟩ := i2.shp _ hmem
   have hint := i2.lies.nums _ hmem
   rw [e1] at c3
   rw [e2] at d3 hint
   rw [HSN.out k] at c3 hat
   have harg := pI hint hnone hroom (HM.out _ hmem) (i2.fits _ hmem).2.2
   clear q1 q2 hint hnone hroom hmem e1 e2 i1 i2
   generalize (yV L k).1 = x at *
   have HKP : Hid (∀ W, Below wr.heap.size wr W -> Calls Try.prog 24 #[.slice (some ⟨gl, 0, none⟩) x.nums.length (x.nums.length + 4), .slice ra x.nums.length rc] W fun e w' => e = .returned (.bool true) /\ Below W.heap.size W w') := fun W hb => (aX gl ra x.nums x.nums.length rc 0 W ⟨Nat.zero_le _, rfl, hat.below hb⟩ (harg.below hb)).mono fun e w' ⟨n, h1, h2⟩ => ⟨h1, by rw [h2]; exact eF (Below.refl _ _) n⟩
   clear hat harg
   generalize x.nums.length = xl at *
   go_wp2
   refine zP 13 (fun i u v => match i with
    | 0 => v = .pointer (some ⟨w.heap.size, 1, none⟩)
    | 1 => v = .slice (some ⟨g1, o1, none⟩) n c1
    | 2 => v = .int .i64 (k : Int)
    | 3 => v = .pointer (some ⟨g1, o1 + k * 11, none⟩)
    | 4 => v = .pointer (some ⟨g1, o1 + k * 11 + 3, none⟩)
    | 5 => v = .slice (some ⟨gl, 0, none⟩) xl (xl + 4)
    | 6 => v = .pointer (some ⟨w.heap.size + 1, 1, none⟩)
    | 7 => v = .slice (some ⟨g2, o2, none⟩) n c2
    | 8 => v = .int .i64 (k : Int)
    | 9 => v = .pointer (some ⟨g2, o2 + k * 11, none⟩)
    | 10 => v = .pointer (some ⟨g2, o2 + k * 11 + 3, none⟩)
    | 11 => v = .slice ra xl rc
    | 12 => v = .bool true
    | _ => True) (by kernel_rfl) (by kernel_rfl) (by kernel_rfl) (by kernel_rfl) ?_ ?_ ?_
   ·intro i w v w' h hb
    match i, h with
    | 0, h => exact h
    | 1, h => exact h
    | 2, h => exact h
    | 3, h => exact h
    | 4, h => exact h
    | 5, h => exact h
    | 6, h => exact h
    | 7, h => exact h
    | 8, h => exact h
    | 9, h => exact h
    | 10, h => exact h
    | 11, h => exact h
    | 12, h => exact h
    | _ + 13, _ => trivial
   ·intro i o ρ w' hi ho hb hc hf hfr zY
    have LK : ∀ {a : Addr} {x : Value}, wr.cell? a = some x -> w'.cell? a = some x := fun h2 => zX hb h2
    have k1 := LK y1
    have k2 := LK y2
    have p3 := LK c3
    have r3 := LK d3
    match i, hi with
    | 0, _ =>
     simp only [qS] at ho
     subst ho
     have ts : ρ (.tmp 2) = .pointer (some ⟨w.heap.size, 0, none⟩) := hfr 2 (by kernel_rfl)
     simp [go_sem, ts]
     exact qB
    | 1, _ =>
     simp only [qS] at ho
     subst ho
     have ts : ρ (.tmp 18) = .pointer (some ⟨w.heap.size, 1, none⟩) := zY 0 18 (by kernel_rfl) (by kernel_rfl)
     simp [go_sem, ts, k1]
     exact qB
    | 2, _ =>
     simp only [qS] at ho
     subst ho
     have ts : ρ (.tmp 5) = .int .i64 (k : Int) := hfr 5 (by kernel_rfl)
     simp [go_sem, ts]
     exact qB
    | 3, _ =>
     simp only [qS] at ho
     subst ho
     have ts : ρ (.tmp 19) = .slice (some ⟨g1, o1, none⟩) n c1 := zY 1 19 (by kernel_rfl) (by kernel_rfl)
     have tk : ρ (.tmp 20) = .int .i64 (k : Int) := zY 2 20 (by kernel_rfl) (by kernel_rfl)
     simp [go_sem, ts, tk, hki]
     exact qB
    | 4, _ =>
     simp only [qS] at ho
     subst ho
     have ts : ρ (.tmp 21) = .pointer (some ⟨g1, o1 + k * 11, none⟩) := zY 3 21 (by kernel_rfl) (by kernel_rfl)
     simp [go_sem, ts]
     exact qB
    | 5, _ =>
     simp only [qS] at ho
     subst ho
     have ts : ρ (.tmp 22) = .pointer (some ⟨g1, o1 + k * 11 + 3, none⟩) := zY 4 22 (by kernel_rfl) (by kernel_rfl)
     simp [go_sem, ts, p3]
     exact qB
    | 6, _ =>
     simp only [qS] at ho
     subst ho
     have ts : ρ (.tmp 3) = .pointer (some ⟨w.heap.size + 1, 0, none⟩) := hfr 3 (by kernel_rfl)
     simp [go_sem, ts]
     exact qB
    | 7, _ =>
     simp only [qS] at ho
     subst ho
     have ts : ρ (.tmp 24) = .pointer (some ⟨w.heap.size + 1, 1, none⟩) := zY 6 24 (by kernel_rfl) (by kernel_rfl)
     simp [go_sem, ts, k2]
     exact qB
    | 8, _ =>
     simp only [qS] at ho
     subst ho
     have ts : ρ (.tmp 5) = .int .i64 (k : Int) := hfr 5 (by kernel_rfl)
     simp [go_sem, ts]
     exact qB
    | 9, _ =>
     simp only [qS] at ho
     subst ho
     have ts : ρ (.tmp 25) = .slice (some ⟨g2, o2, none⟩) n c2 := zY 7 25 (by kernel_rfl) (by kernel_rfl)
     have tk : ρ (.tmp 26) = .int .i64 (k : Int) := zY 8 26 (by kernel_rfl) (by kernel_rfl)
     simp [go_sem, ts, tk, hki]
     exact qB
    | 10, _ =>
     simp only [qS] at ho
     subst ho
     have ts : ρ (.tmp 27) = .pointer (some ⟨g2, o2 + k * 11, none⟩) := zY 9 27 (by kernel_rfl) (by kernel_rfl)
     simp [go_sem, ts]
     exact qB
    | 11, _ =>
     simp only [qS] at ho
     subst ho
     have ts : ρ (.tmp 28) = .pointer (some ⟨g2, o2 + k * 11 + 3, none⟩) := zY 10 28 (by kernel_rfl) (by kernel_rfl)
     simp [go_sem, ts, r3]
     exact qB
    | 12, _ =>
     simp only [qS] at ho
     subst ho
     have ts : ρ (.tmp 23) = .slice (some ⟨gl, 0, none⟩) xl (xl + 4) := zY 5 23 (by kernel_rfl) (by kernel_rfl)
     have tk : ρ (.tmp 29) = .slice ra xl rc := zY 11 29 (by kernel_rfl) (by kernel_rfl)
     simp [go_sem, ts, tk, hf]
     exact ⟨rfl, (HKP.out w' hb).mono fun e u h => ⟨_, h.1, h.2, rfl⟩⟩
   intro V w9 q9 hS
   have e0 : V 0 = .pointer (some ⟨w.heap.size, 1, none⟩) := hS 0 (by decide)
   have e1 : V 1 = .slice (some ⟨g1, o1, none⟩) n c1 := hS 1 (by decide)
   have e2 : V 2 = .int .i64 (k : Int) := hS 2 (by decide)
   have e3 : V 3 = .pointer (some ⟨g1, o1 + k * 11, none⟩) := hS 3 (by decide)
   have e4 : V 4 = .pointer (some ⟨g1, o1 + k * 11 + 3, none⟩) := hS 4 (by decide)
   have e5 : V 5 = .slice (some ⟨gl, 0, none⟩) xl (xl + 4) := hS 5 (by decide)
   have e6 : V 6 = .pointer (some ⟨w.heap.size + 1, 1, none⟩) := hS 6 (by decide)
   have e7 : V 7 = .slice (some ⟨g2, o2, none⟩) n c2 := hS 7 (by decide)
   have e8 : V 8 = .int .i64 (k : Int) := hS 8 (by decide)
   have e9 : V 9 = .pointer (some ⟨g2, o2 + k * 11, none⟩) := hS 9 (by decide)
   have e10 : V 10 = .pointer (some ⟨g2, o2 + k * 11 + 3, none⟩) := hS 10 (by decide)
   have e11 : V 11 = .slice ra xl rc := hS 11 (by decide)
   have e12 : V 12 = .bool true := hS 12 (by decide)
   simp only [List.drop_succ_cons, List.drop_zero, List.take_succ_cons, List.take_zero, yL, e0, e1, e2, e3, e4, e5, e6, e7, e8, e9, e10, e11, e12]
   simp only [Act.put, qU]
   clear hS e0 e1 e2 e3 e4 e5 e6 e7 e8 e9 e10 e11 e12 V
   go_wp2
   go_roundg (n - (k + 1))
   case measure => omega
   case rel => exact ⟨k + 1, by omega, rfl, by go_num, HBE.out.trans (q9.mono HBE.out.size)⟩
  have ek : k = n := by omega
  subst ek
  have hki : ¬ (k : Int) < (k : Int) := by omega
  have hq := q1 k (by simp; omega)
  rw [bF hM] at hq
  have c0 : wr.cell? ⟨g1, o1 + k * 11, none⟩ = some (.int .u8 99) := hq.c0
  have cn : wr.cell? ⟨g1, o1 + k * 11 + 1, none⟩ = some (.string ⟨#[]⟩) := hq.c1
  have hk1 : (k : Int) < (k : Int) + 1 := by omega
  clear q1 hq i1
  go_wp2
  go_ret
  exact ⟨by first | rfl | simp, HB0.out.trans (HBE.out.mono HB0.out.size)⟩
theorem Try.cells8KI : Try.prog.cellsOf 40 = 1 := by kernel_rfl
section
variable {H : Type} {enc : TypeId × Value -> H} {W : World} {base : Nat} {held : Bool}
theorem eJ {n : Nat} {cs : List Value} {y : DataW H × List MemPlace} (h : DataW.trod enc Try.prog W base (fun _ => true) held n 45 cs = some y) (hw : (y.1.weights Try.prog 45).all (· <= reachBytes) = true) :
 ∃ p : yO × Value, cs = tL p /\ ItZ W p /\ TN p.1 := by
 obtain ⟨xs, k, hk, hxy, hcl, hxl, hf⟩ := DataW.trod_struct Try.underlying45 h
 rw [Try.cells5IT] at hcl
 match xs, hxl, cs, hcl with
 | [y0, y1, y2, y3, y4, y5, y6], _, [v0, v1, v2, v3, v4, v5, v6, v7, v8, v9, v10], _ =>
  have g0 := hf 0 _ rfl
  have g1 := hf 1 _ rfl
  have g2 := hf 2 _ rfl
  have g3 := hf 3 _ rfl
  have g4 := hf 4 _ rfl
  have g5 := hf 5 _ rfl
  have g6 := hf 6 _ rfl
  simp [Try.cells59, Try.cells53, Try.cells5PL, Try.cells5SL, Try.cells8KI] at g0 g1 g2 g3 g4 g5 g6
  have hw3 : (y3.1.weights Try.prog 41).all (· <= reachBytes) = true := by
   rw [hxy] at hw
   simp only [DataW.weights, Try.underlying45] at hw
   rw [List.all_eq_true] at hw ⊢
   exact fun m hm => hw m (DataW.weights_mem_each (j := 3) (t := 41) (d := y3.1) rfl rfl m hm)
  obtain ⟨z0, q0, -, -⟩ := DataW.trod_int Try.underlying40 g0
  have hw1 : (y1.1.weights Try.prog 9).all (· <= reachBytes) = true := by
   rw [hxy] at hw
   simp only [DataW.weights, Try.underlying45] at hw
   rw [List.all_eq_true] at hw ⊢
   exact fun m hm => hw m (DataW.weights_mem_each (j := 1) (t := 9) (d := y1.1) rfl rfl m hm)
  have hw4 : (y4.1.weights Try.prog 43).all (· <= reachBytes) = true := by
   rw [hxy] at hw
   simp only [DataW.weights, Try.underlying45] at hw
   rw [List.all_eq_true] at hw ⊢
   exact fun m hm => hw m (DataW.weights_mem_each (j := 4) (t := 43) (d := y4.1) rfl rfl m hm)
  have hw5 : (y5.1.weights Try.prog 43).all (· <= reachBytes) = true := by
   rw [hxy] at hw
   simp only [DataW.weights, Try.underlying45] at hw
   rw [List.all_eq_true] at hw ⊢
   exact fun m hm => hw m (DataW.weights_mem_each (j := 5) (t := 43) (d := y5.1) rfl rfl m hm)
  obtain ⟨z1, q1, e1, -⟩ := DataW.trod_string Try.underlying9 g1
  rw [e1] at hw1
  have lz1 : z1.data.toList.length <= 140737488355328 := by
   have hx := List.all_eq_true.1 hw1 z1.data.toList.length (by simp [DataW.weights])
   have hy := of_decide_eq_true hx
   unfold reachBytes at hy
   omega
  obtain ⟨z2, q2, -⟩ := DataW.trod_string Try.underlying9 g2
  obtain ⟨ns, a1, a2, a3, a4⟩ := bN g3 hw3
  obtain ⟨p4, q4, b4, n4⟩ := nU g4 hw4
  obtain ⟨p5, q5, b5, n5⟩ := nU g5 hw5
  obtain ⟨z6, q6, -, -⟩ := DataW.trod_int Try.underlying3 g6
  simp only [List.cons.injEq, and_true] at q0 q1 q2 q4 q5 q6
  obtain ⟨rfl, rfl, rfl⟩ := q4
  obtain ⟨rfl, rfl, rfl⟩ := q5
  subst q0 q1 q2 q6
  exact ⟨(⟨z0, z1.data.toList, z2.data.toList, ns, p4, p5, z6⟩, v3), rfl, ⟨a1, a2, a3, b4, b5, a4⟩, lz1, n4, n5⟩
theorem iT {r : Reach} {b0 : Nat} {v : Value} {d : DataW H} {p : List MemPlace} (hv : Value.okWide Try.prog W r b0 24 v) (h : DataW.Trod enc Try.prog W base (fun _ => true) held 24 v d p) (hw : (d.weights Try.prog 24).all (· <= reachBytes) = true) :
 ∃ nm a n c L, v = .agg #[.string (zW nm), .slice a n c] /\ mC W a n L /\ (∀ p ∈ L, TN p.1) := by
 obtain ⟨cs, rfl, hsz⟩ := okWide_struct Try.underlying24 hv
 rw [Try.cells5SK] at hsz
 obtain ⟨fuel, hf⟩ := h
 obtain ⟨xs, k, hk, hxy, hcl, hxl, hf⟩ := DataW.trod_struct Try.underlying24 hf
 obtain ⟨l⟩ := cs
 match xs, hxl, l, hsz with
 | [y0, y1], _, [v0, v1], _ =>
  have g0 := hf 0 _ rfl
  have g1 := hf 1 _ rfl
  simp [Value.cells, Try.cells59, Try.cells5IS] at g0 g1
  have hw1 : (y1.1.weights Try.prog 22).all (· <= reachBytes) = true := by
   have hd := congrArg Prod.fst hxy
   simp only at hd
   rw [hd] at hw
   simp only [DataW.weights, Try.underlying24] at hw
   rw [List.all_eq_true] at hw ⊢
   exact fun m hm => hw m (DataW.weights_mem_each (j := 1) (t := 22) (d := y1.1) rfl rfl m hm)
  obtain ⟨z0, q0, -⟩ := DataW.trod_string Try.underlying9 g0
  simp only [List.cons.injEq, and_true] at q0
  subst q0
  rcases Deep.open_slice Try.underlying22 g1 with ⟨h1, -⟩ | ⟨x, len, cap, m, n, D, Pl, h1, -, hl, -, hm, hd, hx⟩
  ·simp only [List.cons.injEq, and_true] at h1
   subst h1
   exact ⟨z0.data.toList, none, 0, 0, [], rfl, ⟨rfl, ⟨.inl rfl, fun p hp => by cases hp⟩, by decide, (fun p hp => by cases hp), (fun p hp => by cases hp), fun p hp => by cases hp⟩, fun p hp => by cases hp⟩
  simp only [List.cons.injEq, and_true] at h1
  subst h1
  simp only [if_true] at hm
  rw [hd] at hw1
  simp only [DataW.weights, Try.underlying22, List.all_cons, List.all_append, Bool.and_eq_true, decide_eq_true_eq, Try.bytes5IT] at hw1
  obtain ⟨wr, we, -⟩ := hw1
  simp only [reachBytes, List.length_map, List.length_range] at wr
  have each : ∀ i, i < len -> ∃ p : yO × Value, W.cells? base (x.add (i * 11)) 11 = some (tL p) /\ ItZ W p /\ TN p.1 := by
   intro i hi
   obtain ⟨cs', h1, h2⟩ := hx i (by omega)
   rw [Try.cells5IT] at h1
   obtain ⟨p, rfl, hp⟩ := eJ h2 (gA (List.mem_map.2 ⟨i, List.mem_range.2 hi, rfl⟩) we)
   exact ⟨p, h1, hp⟩
  obtain ⟨q, hq⟩ := VP (nY, Value.slice none 0 0) each
  have hn : ∀ k, k < len -> yV ((List.range len).map q) k = q k := fun k hk => by
   unfold yV; rw [List.getD_eq_getElem?_getD, List.getElem?_map, List.getElem?_range hk]; rfl
  have hmem : ∀ p ∈ (List.range len).map q, ItZ W p /\ TN p.1 := fun p hp => by
   obtain ⟨i, hi, rfl⟩ := List.mem_map.1 hp
   exact (hq i (List.mem_range.1 hi)).2
  refine ⟨z0.data.toList, some x, len, cap, (List.range len).map q, rfl, ⟨by simp, ⟨?_, fun p hp => (hmem p hp).1.ints⟩, by omega, fun p hp => (hmem p hp).1.nums, fun p hp => (hmem p hp).1.shp, fun p hp => (hmem p hp).1.fits⟩, fun p hp => (hmem p hp).2⟩
  by_cases h0 : 0 < len
  ·right
   have cell : ∀ i, i < len -> ∀ j u, (tL (q i))[j]? = some u -> W.cell? ((x.add (i * 11)).add j) = some u := fun i hi j u hu => by
    obtain ⟨_, hlen, hc⟩ := World.cells?_some (hq i hi).1
    have hj : j < 11 := by
     have := (List.getElem?_eq_some_iff.1 hu).1
     have e : (tL (q i)).length = 11 := rfl
     omega
    rw [hc j hj, hu]
   have hs := gB (W := W) (x := x.add (0 * 11)) (cell 0 h0 0 _ rfl)
   obtain ⟨b, off, sp⟩ := x
   simp [Addr.add] at hs
   subst hs
   refine ⟨b, off, rfl, fun k hk => ?_⟩
   have hk' : k < len := by simpa using hk
   rw [hn k hk']
   have c := cell k hk'
   rw [Addr.add_lit] at c
   exact ⟨by simpa [Addr.add_lit] using c 0 _ rfl, by simpa [Addr.add_lit] using c 1 _ rfl, by simpa [Addr.add_lit] using c 2 _ rfl, by simpa [Addr.add_lit] using c 3 _ rfl, by simpa [Addr.add_lit] using c 4 _ rfl, by simpa [Addr.add_lit] using c 5 _ rfl, by simpa [Addr.add_lit] using c 6 _ rfl, by simpa [Addr.add_lit] using c 7 _ rfl, by simpa [Addr.add_lit] using c 8 _ rfl, by simpa [Addr.add_lit] using c 9 _ rfl, by simpa [Addr.add_lit] using c 10 _ rfl⟩
  left
  have e : len = 0 := by omega
  subst e
  rfl
end
end Go.Proofs.Ytgoconkleicmkaa
