/- TmArg -/
import Derived.Test.YtgcjfiablcjfgaaTmRef
import Derived.Test.YtgcjfiablcjfgaaTyKit
import Derived.Laws.StructEq
/- Layer 10: an argument that is a frame, opened and shut again; frames compared with themselves. -/
namespace Go.Proofs.Ytgcjfiablcjfgaa
open Go.ChangeShapes Go.WideShapes Go.ChangeAt Go.RowKit Go.Deep
set_option linter.unusedVariables false
set_option maxRecDepth 100000

/-- The cells of a frame. -/
def tmCells (f : Tmf) : List Value := [.int .i64 f.cr, .int .i64 f.ch, .int .i64 f.ma, .int .i64 f.ct, .int .i64 f.fi, .string f.da, .int .u32 (f.wo : Nat)]
def TmWf (f : Tmf) : Prop := f.da.size ≤ maxLen ∧ f.wo < 4294967296
section
variable {H : Type} {enc : TypeId × Value → H}
theorem under_frame : ∃ f0 f1 f2 f3 f4 f5 f6 : Field, Try.prog.underlying 24 = some (.struct #[f0, f1, f2, f3, f4, f5, f6]) ∧ oneCellFields Try.prog #[f0, f1, f2, f3, f4, f5, f6] = true ∧ f0.type = 3 ∧ f1.type = 3 ∧ f2.type = 3 ∧ f3.type = 3 ∧ f4.type = 3 ∧ f5.type = 9 ∧ f6.type = 22 :=
  ⟨_, _, _, _, _, _, _, Try.underlying24, by kernel_rfl, rfl, rfl, rfl, rfl, rfl, rfl, rfl⟩
theorem cells_frame : Try.prog.cellsOf 24 = 7 := by kernel_rfl
theorem frame_cells {w : World} {n : Nat} {cs : List Value} {y : DataW H × List MemPlace} (h : DataW.trod enc Try.prog w 0 (fun _ => true) true n 24 cs = some y) : ∃ q : Tmf, cs = tmCells q ∧ TmWf q := by
  obtain ⟨f0, f1, f2, f3, f4, f5, f6, uS, uO, e0, e1, e2, e3, e4, e5, e6⟩ := under_frame
  obtain ⟨o0, k0⟩ := hone_of uO 0 f0 rfl
  obtain ⟨o1, k1⟩ := hone_of uO 1 f1 rfl
  obtain ⟨o2, k2⟩ := hone_of uO 2 f2 rfl
  obtain ⟨o3, k3⟩ := hone_of uO 3 f3 rfl
  obtain ⟨o4, k4⟩ := hone_of uO 4 f4 rfl
  obtain ⟨o5, k5⟩ := hone_of uO 5 f5 rfl
  obtain ⟨o6, k6⟩ := hone_of uO 6 f6 rfl
  obtain ⟨xs, m, _, rfl, hl, hlen, hf⟩ := DataW.trod_struct uS h
  rw [cells_frame] at hl
  match xs, hlen with
  | [y0, y1, y2, y3, y4, y5, y6], _ =>
    have h0 := hf 0 f0 rfl
    have h1 := hf 1 f1 rfl
    have h2 := hf 2 f2 rfl
    have h3 := hf 3 f3 rfl
    have h4 := hf 4 f4 rfl
    have h5 := hf 5 f5 rfl
    have h6 := hf 6 f6 rfl
    match cs, hl with
    | [v0, v1, v2, v3, v4, v5, v6], _ =>
      rw [o0, k0, e0] at h0
      rw [o1, k1, e1] at h1
      rw [o2, k2, e2] at h2
      rw [o3, k3, e3] at h3
      rw [o4, k4, e4] at h4
      rw [o5, k5, e5] at h5
      rw [o6, k6, e6] at h6
      simp only [List.drop_zero, List.drop_succ_cons, List.take_succ_cons, List.take_zero] at h0 h1 h2 h3 h4 h5 h6
      obtain ⟨i0, c0, _, g0⟩ := DataW.trod_int Try.underlying3 h0
      obtain ⟨i1, c1, _, g1⟩ := DataW.trod_int Try.underlying3 h1
      obtain ⟨i2, c2, _, g2⟩ := DataW.trod_int Try.underlying3 h2
      obtain ⟨i3, c3, _, g3⟩ := DataW.trod_int Try.underlying3 h3
      obtain ⟨i4, c4, _, g4⟩ := DataW.trod_int Try.underlying3 h4
      obtain ⟨s, c5, _, g5⟩ := DataW.trod_string Try.underlying9 h5
      obtain ⟨i6, c6, _, g6⟩ := DataW.trod_int Try.underlying22 h6
      simp only [List.cons.injEq, and_true] at c0 c1 c2 c3 c4 c5 c6
      subst c0 c1 c2 c3 c4 c5 c6
      have b6 : 0 ≤ i6 ∧ i6 < 4294967296 := by
        simp only [Lit.wf, IntKind.min, IntKind.max, IntKind.signed, IntKind.bits, Bool.and_eq_true] at g6
        simp at g6
        omega
      obtain ⟨n6, rfl⟩ := Int.eq_ofNat_of_zero_le b6.1
      exact ⟨⟨i0, i1, i2, i3, i4, s, n6⟩, rfl, g5, by show n6 < _; omega⟩
/-- A frame as an argument. -/
theorem frame_arg {r : Reach} {b0 : Nat} {w : World} {v : Value} {d : DataW H} {p : List MemPlace} (hv : Value.okWide Try.prog w r b0 24 v) (hd : DataW.Trod enc Try.prog w 0 (fun _ => true) true 24 v d p) :
    ∃ q : Tmf, v = tmVal q ∧ TmWf q ∧ ∀ W', Below w.heap.size w W' → ∀ sp : Nat → Bool, (∀ x ∈ p, sp x.block = true) → DataW.Trod enc Try.prog W' 0 sp true 24 v d p := by
  have ST := fun W' (hb : Below w.heap.size w W') (sp : Nat → Bool) (hs : ∀ q ∈ p, sp q.block = true) => pk_stay (t := 24) (by kernel_rfl) (of_decide_eq_true (by kernel_rfl)) hd hb (sp := sp) hs
  obtain ⟨f0, f1, f2, f3, f4, f5, f6, uS, _⟩ := under_frame
  obtain ⟨cs, rfl, hsz⟩ := okWide_struct uS hv
  obtain ⟨fuel, hf⟩ := hd
  obtain ⟨q, hq, hw⟩ := frame_cells hf
  refine ⟨q, ?_, hw, ST⟩
  have e : cs.toList = tmCells q := hq
  have : cs = (tmCells q).toArray := by rw [← e, Array.toArray_toList]
  rw [this]
  rfl
end
theorem eqFields_self {P : Program} (d : Nat) (xs : Array Value) (w : World) : ∀ fs : List Field, (∀ f ∈ fs, ∃ v, (part f.type xs f.offset).run P w = .ok v w ∧ (Op.equalIn d f.type v v).run P w = .ok true w) → (Op.eqFields d xs xs fs).run P w = .ok true w
  | [], _ => by simp [Op.eqFields]
  | f :: fs, h => by
    obtain ⟨v, h1, h2⟩ := h f (by simp)
    have ih := eqFields_self d xs w fs (fun f hf => h f (by simp [hf]))
    unfold Op.eqFields
    by_cases e : f.name = "_"
    · simp [e, ih]
    · simp [e, h1, h2, ih]
theorem part_int (xs : Array Value) (i : Nat) (b : Int) (h : xs[i]? = some (.int .i64 b)) (w : World) : (part 3 xs i).run Try.prog w = .ok (.int .i64 b) w := by
  unfold part
  go_simp
theorem part_u32 (xs : Array Value) (i : Nat) (b : Int) (h : xs[i]? = some (.int .u32 b)) (w : World) : (part 22 xs i).run Try.prog w = .ok (.int .u32 b) w := by
  unfold part
  go_simp
theorem part_str (xs : Array Value) (i : Nat) (b : ByteArray) (h : xs[i]? = some (.string b)) (w : World) : (part 9 xs i).run Try.prog w = .ok (.string b) w := by
  unfold part
  go_simp
theorem eqi_int (d : Nat) (b : Int) (w : World) : (Op.equalIn (d + 1) 3 (.int .i64 b) (.int .i64 b)).run Try.prog w = .ok true w := by
  rw [run_equalIn_int w d _ .i64 .i64 b b Try.underlying3]; simp
theorem eqi_u32 (d : Nat) (b : Int) (w : World) : (Op.equalIn (d + 1) 22 (.int .u32 b) (.int .u32 b)).run Try.prog w = .ok true w := by
  rw [run_equalIn_int w d _ .u32 .u32 b b Try.underlying22]; simp
theorem eqi_str (d : Nat) (b : ByteArray) (w : World) : (Op.equalIn (d + 1) 9 (.string b) (.string b)).run Try.prog w = .ok true w := by
  rw [run_equalIn_string w d _ b b Try.underlying9]; simp
theorem mem_tm : ∀ f ∈ (Try.prog.fieldsOf 24).toList, (f.type = 3 ∧ f.offset = 0) ∨ (f.type = 3 ∧ f.offset = 1) ∨ (f.type = 3 ∧ f.offset = 2) ∨ (f.type = 3 ∧ f.offset = 3) ∨ (f.type = 3 ∧ f.offset = 4) ∨ (f.type = 9 ∧ f.offset = 5) ∨ (f.type = 22 ∧ f.offset = 6) := by decide +kernel
theorem eqIn_tm (p : Tmf) (w : World) (d : Nat) : (Op.equalIn (d + 2) 24 (tmVal p) (tmVal p)).run Try.prog w = .ok true w := by
  unfold tmVal
  rw [run_equalIn_struct w (d + 1) _ _ _ (by kernel_rfl) (by kernel_rfl)]
  refine eqFields_self _ _ _ _ (fun f hf => ?_)
  rcases mem_tm f hf with ⟨h1, h2⟩ | ⟨h1, h2⟩ | ⟨h1, h2⟩ | ⟨h1, h2⟩ | ⟨h1, h2⟩ | ⟨h1, h2⟩ | ⟨h1, h2⟩
  · rw [h1, h2]; exact ⟨_, part_int _ 0 p.cr rfl w, eqi_int d _ w⟩
  · rw [h1, h2]; exact ⟨_, part_int _ 1 p.ch rfl w, eqi_int d _ w⟩
  · rw [h1, h2]; exact ⟨_, part_int _ 2 p.ma rfl w, eqi_int d _ w⟩
  · rw [h1, h2]; exact ⟨_, part_int _ 3 p.ct rfl w, eqi_int d _ w⟩
  · rw [h1, h2]; exact ⟨_, part_int _ 4 p.fi rfl w, eqi_int d _ w⟩
  · rw [h1, h2]; exact ⟨_, part_str _ 5 p.da rfl w, eqi_str d _ w⟩
  · rw [h1, h2]; exact ⟨_, part_u32 _ 6 _ rfl w, eqi_u32 d _ w⟩
theorem eql_tm (p : Tmf) (w : World) : (binOp .eql 24 (tmVal p) (tmVal p)).run Try.prog w = .ok (.bool true) w := by
  have h := eqIn_tm p w 9998
  unfold tmVal at h ⊢
  rw [run_eql_struct, h]
  rfl
theorem neq_tm (p : Tmf) (w : World) : (binOp .neq 24 (tmVal p) (tmVal p)).run Try.prog w = .ok (.bool false) w := by
  have h := eqIn_tm p w 9998
  unfold tmVal at h ⊢
  rw [run_neq_struct, h]
  rfl
end Go.Proofs.Ytgcjfiablcjfgaa
