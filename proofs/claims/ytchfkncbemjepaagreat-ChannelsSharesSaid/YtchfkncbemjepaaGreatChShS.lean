/- ChShS -/
import Derived.Test.YtchfkncbemjepaaGreatChShown
import Derived.Test.YtchfkncbemjepaaGreatChShF
import Derived.Test.YtchfkncbemjepaaGreatChArg
/- Layer 11's laws: the steps of a mux and a demux side by side. -/
namespace Go.Proofs.YtchfkncbemjepaaGreat
open Go.RowKit
set_option linter.unusedVariables false
set_option maxRecDepth 100000

/-- A mux and a demux of the same craft and size, and a set of blocks of other types. -/
structure MDs (B : Nat) (w0 wr : World) (n5 n6 M D : Nat) (X : Nat → Nat) (x : Ch.Mx) (y : Ch.Dx) : Prop where
  pm : ∃ va vb, PM wr n5 M x X va vb
  ok : x.Ok
  pd : PD wr n6 D y
  dok : y.Ok
  yc : y.craft = x.craft
  yn : y.n = x.n
  b : Below B w0 wr
  s5 : n5 ≤ wr.heap.size
  s6 : n6 ≤ wr.heap.size
  h5 : B ≤ n5
  h6 : B ≤ n6
/-- What blocks of another type keep. -/
def KO (w w' : World) : Prop := w.heap.size ≤ w'.heap.size ∧ ∀ Z t, TyB w Z t → t ∉ MTs → t ≠ 68 → w'.heap[Z]? = w.heap[Z]?
theorem KO.of_below {w w' : World} (h : Below w.heap.size w w') : KO w w' := ⟨h.size, fun Z t T _ _ => h.block Z T.lt⟩
theorem KO.trans {w w1 w2 : World} (h : KO w w1) (k : KO w1 w2) : KO w w2 := ⟨Nat.le_trans h.1 k.1, fun Z t T h1 h2 => (k.2 Z t (T.of_block (h.2 Z t T h1 h2)) h1 h2).trans (h.2 Z t T h1 h2)⟩
namespace MDs
variable {B n5 n6 M D : Nat} {w0 wr w' : World} {X : Nat → Nat} {x : Ch.Mx} {y : Ch.Dx}
theorem below (h : MDs B w0 wr n5 n6 M D X x y) (hb : Below wr.heap.size wr w') : MDs B w0 w' n5 n6 M D X x y := by
  obtain ⟨⟨va, vb, p⟩, ok, q, dok, yc, yn, b, s5, s6, h5, h6⟩ := h
  exact ⟨⟨va, vb, p.below hb⟩, ok, q.below hb, dok, yc, yn, b.trans (hb.mono (Nat.le_trans h5 s5)), Nat.le_trans s5 hb.size, Nat.le_trans s6 hb.size, h5, h6⟩
/-- A step in blocks that lie above and belong to neither. -/
theorem keep (h : MDs B w0 wr n5 n6 M D X x y) {Z : Nat} {t : TypeId} (T : TyB wr Z t) (h1 : t ∉ MTs) (h2 : t ≠ 68) (hz : B ≤ Z) (k : But Z wr w') : MDs B w0 w' n5 n6 M D X x y := by
  obtain ⟨⟨va, vb, p⟩, ok, q, dok, yc, yn, b, s5, s6, h5, h6⟩ := h
  refine ⟨⟨va, vb, p.keep (fun g hg => k.rest g (p.lt hg) (fun e => ?_))⟩, ok, q.keep (k.rest D q.dt.lt (fun e => ty_ne T q.dt h2 e.symm)), dok, yc, yn, b.trans (k.below.mono hz), Nat.le_trans s5 k.below.size, Nat.le_trans s6 k.below.size, h5, h6⟩
  obtain ⟨s, hs, U⟩ := p.tyS hg
  exact ty_ne U T (fun e => by subst e; exact h1 hs) e
theorem waiting (h : MDs B w0 wr n5 n6 M D X x y) {c : Nat} (hc : c < 8) :
    Calls Tryz.prog 18 #[.pointer (some ⟨M, 0, none⟩), .int .i64 (c : Nat)] wr fun e w' => e = .returned (.int .i64 (x.wt c : Nat)) ∧ ∃ m, w' = wr.drewN m := by
  obtain ⟨va, vb, p⟩ := h.pm
  exact mWaiting_any p h.ok c hc
theorem add (h : MDs B w0 wr n5 n6 M D X x y) {c i : Nat} (hc : c < 8) (hi : i < 16384) (hw : x.wt c < 32) :
    Calls Tryz.prog 12 #[.pointer (some ⟨M, 0, none⟩), .int .i64 (c : Nat), .string (bs (Ch.mk 100 i))] wr fun e w' => e = .returned (.int .i64 0) ∧ MDs B w0 w' n5 n6 M D X (x.add c (bs (Ch.mk 100 i))) y ∧ KO wr w' := by
  obtain ⟨⟨va, vb, p⟩, ok, q, dok, yc, yn, b, s5, s6, h5, h6⟩ := h
  have sz : (bs (Ch.mk 100 i)).size = 100 := by rw [bs_size, Ch.mk_len 100 i (by omega)]
  have bu : Pk.busy (bs (Ch.mk 100 i)).data.toList = true := by rw [bs_list]; exact Ch.mk_busy 100 i (by omega) (by omega) hi
  have a0 : acV (x.fl c) (bs (Ch.mk 100 i)) = 0 := by
    unfold acV
    have : Tm.wait (x.fl c).q < 32 := hw
    rw [if_pos bu, if_neg (by rw [sz]; omega)]
  have A := mAdd_any p ok s5 c hc (bs (Ch.mk 100 i)) (by rw [sz]; omega)
  rw [a0] at A
  refine A.mono ?_
  rintro e w1 ⟨rfl, va1, vb1, p1, k1⟩
  exact ⟨rfl, ⟨⟨va1, vb1, p1⟩, ok.add c hc _, q.kfM p k1, dok, yc, yn, b.trans (k1.below.mono h5), Nat.le_trans s5 k1.below.size, Nat.le_trans s6 k1.below.size, h5, h6⟩, k1.below.size, fun Z t T h1 h2 => p.kfO T h1 k1⟩
theorem next (h : MDs B w0 wr n5 n6 M D X x y) (word : Nat) (hw : word < 4294967296) :
    Calls Tryz.prog 16 #[.pointer (some ⟨M, 0, none⟩), .int .u32 (word : Nat)] wr fun e w' => e = .returned (.tuple #[.string (bs (Tm.enc (x.frm word))), .int .i64 0]) ∧ MDs B w0 w' n5 n6 M D X x.nxt y ∧ KO wr w' := by
  obtain ⟨⟨va, vb, p⟩, ok, q, dok, yc, yn, b, s5, s6, h5, h6⟩ := h
  refine (mNext_any p ok s5 word hw).mono ?_
  rintro e w1 ⟨rfl, va1, vb1, p1, k1⟩
  have ec : x.nxt.craft = x.craft := Ch.Mx.chz_craft x
  have en : x.nxt.n = x.n := Ch.Mx.chz_n x
  exact ⟨rfl, ⟨⟨va1, vb1, p1⟩, ok.nxt, q.kfM p k1, dok, yc.trans ec.symm, yn.trans en.symm, b.trans (k1.below.mono h5), Nat.le_trans s5 k1.below.size, Nat.le_trans s6 k1.below.size, h5, h6⟩, k1.below.size, fun Z t T h1 h2 => p.kfO T h1 k1⟩
theorem frm_len (o : x.Ok) (word : Nat) : (bs (Tm.enc (x.frm word))).size ≤ 1000000 := by
  rw [bs_size, Tm.enc_len]
  have := o.n2
  show (bs x.dat).size + 12 ≤ 1000000
  rw [bs_size, Ch.Mx.dat_len o]
  omega
theorem feed (h : MDs B w0 wr n5 n6 M D X x y) (s : ByteArray) (hs : s.size ≤ 1000000) (hc : (y.feed s).2.2.craft = y.craft) (hn : (y.feed s).2.2.n = y.n) :
    Calls Tryz.prog 22 #[.pointer (some ⟨D, 0, none⟩), .string s] wr fun e w' => ∃ v, e = .returned (.tuple #[avVal v (y.feed s).1, .int .i64 (y.feed s).2.1]) ∧ w'.ownsRow wr.heap.size 9 1 v (y.feed s).1.pk.length (bsVs (y.feed s).1.pk) ∧ MDs B w0 w' n5 n6 M D X x (y.feed s).2.2 ∧ KO wr w' := by
  obtain ⟨⟨va, vb, p⟩, ok, q, dok, yc, yn, b, s5, s6, h5, h6⟩ := h
  have F := dFeed_any q dok s6 s hs
  unfold Fd at F
  refine F.mono ?_
  rintro e w2 ⟨v, rfl, row, q2, k2⟩
  exact ⟨v, rfl, row, ⟨⟨va, vb, p.kfD q k2⟩, ok, q2, dok.feed s, hc.trans yc, hn.trans yn, b.trans (k2.below.mono h6), Nat.le_trans s5 k2.below.size, Nat.le_trans s6 k2.below.size, h5, h6⟩, k2.below.size, fun Z t T h1 h2 => q.kfO T h2 k2⟩
end MDs
end Go.Proofs.YtchfkncbemjepaaGreat
