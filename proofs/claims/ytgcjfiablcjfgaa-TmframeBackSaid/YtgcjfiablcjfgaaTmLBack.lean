/- TmLBack -/
import Derived.Test.YtgcjfiablcjfgaaTpShown
import Derived.Test.YtgcjfiablcjfgaaTmArg
import Derived.ProofKit
/- TmframeBack: a frame is got from its encoding, and what is accepted is the encoding of the result. No condition. -/
namespace Go.Proofs.Ytgcjfiablcjfgaa
open Go.ChangeShapes Go.WideShapes Go.ChangeAt Go.RowKit
set_option linter.unusedVariables false

namespace tmframeBack
set_option maxRecDepth 100000 in
set_option maxHeartbeats 4000000 in
theorem walk_long1 (p : Tmf) (hp : TmWf p) (b : ByteArray) (hb : b.size ≤ maxLen) (w : World) (hl : 5000 < p.da.size) : Calls Try.prog 6 #[tmVal p, .string b] w fun e w' => e = .returned (.bool true) ∧ Below w.heap.size w w' := by
  have hml := hp.1
  have hwo := hp.2
  unfold maxLen at hml hb
  have SH := Lib.hid (fun w => tshown_any w)
  obtain ⟨m, hm⟩ : ∃ m, p.da.size = m := ⟨_, rfl⟩
  obtain ⟨n, hn⟩ : ∃ n, b.size = n := ⟨_, rfl⟩
  rw [hm] at hml
  rw [hn] at hb
  have hmm : m ≤ 9223372036854775807 := by omega
  rw [hm] at hl
  have t1 : decide (5000 < (m : Int)) = true := decide_eq_true (by omega)
  have t1n : decide (5000 < m) = true := decide_eq_true hl
  clear hl hp hml
  go_enter Try.func6, Try.ntmps6
  go_wp2_with ((with_reducible refine atList ?_); refine wpList_new rfl (.box 24 (.tmp 0)) rfl (some 2) rfl #[.int .i64 p.cr, .int .i64 p.ch, .int .i64 p.ma, .int .i64 p.ct, .int .i64 p.fi, .string p.da, .int .u32 (p.wo : Nat)] 24 (fun X => .pointer (some ⟨X, 0, none⟩)) 7 (tmCel p) (tm_cells p) (box_tm rfl rfl) ?_; intro X w0 HX Sw0 CX Bw0)
  (with_reducible refine (SH.out _).mono ?_)
  rintro e w1 ⟨rfl, h1⟩
  have C21 := Lib.hid (CX.out.below h1)
  have cX : w1.cell? ⟨X, 5, none⟩ = some (.string p.da) := C21.out.cell (j := 5) (by omega)
  have B1 := Lib.hid (bt Bw0.out h1)
  clear h1
  go_wp2_with fail
  go_ret
  exact ⟨rfl, B1.out⟩
set_option maxRecDepth 100000 in
set_option maxHeartbeats 4000000 in
theorem walk_long2 (p : Tmf) (hp : TmWf p) (b : ByteArray) (hb : b.size ≤ maxLen) (w : World) (hl : ¬ 5000 < p.da.size) (hl2 : 5000 < b.size) : Calls Try.prog 6 #[tmVal p, .string b] w fun e w' => e = .returned (.bool true) ∧ Below w.heap.size w w' := by
  have hml := hp.1
  have hwo := hp.2
  unfold maxLen at hml hb
  have SH := Lib.hid (fun w => tshown_any w)
  obtain ⟨m, hm⟩ : ∃ m, p.da.size = m := ⟨_, rfl⟩
  obtain ⟨n, hn⟩ : ∃ n, b.size = n := ⟨_, rfl⟩
  rw [hm] at hml
  rw [hn] at hb
  have hmm : m ≤ 9223372036854775807 := by omega
  rw [hm] at hl
  rw [hn] at hl2
  have t1 : decide (5000 < (m : Int)) = false := decide_eq_false (by omega)
  have t1n : decide (5000 < m) = false := decide_eq_false hl
  have t2 : decide (5000 < (n : Int)) = true := decide_eq_true (by omega)
  have t2n : decide (5000 < n) = true := decide_eq_true hl2
  clear hl hl2 hp hml
  go_enter Try.func6, Try.ntmps6
  go_wp2_with ((with_reducible refine atList ?_); refine wpList_new rfl (.box 24 (.tmp 0)) rfl (some 2) rfl #[.int .i64 p.cr, .int .i64 p.ch, .int .i64 p.ma, .int .i64 p.ct, .int .i64 p.fi, .string p.da, .int .u32 (p.wo : Nat)] 24 (fun X => .pointer (some ⟨X, 0, none⟩)) 7 (tmCel p) (tm_cells p) (box_tm rfl rfl) ?_; intro X w0 HX Sw0 CX Bw0)
  (with_reducible refine (SH.out _).mono ?_)
  rintro e w1 ⟨rfl, h1⟩
  have C21 := Lib.hid (CX.out.below h1)
  have cX : w1.cell? ⟨X, 5, none⟩ = some (.string p.da) := C21.out.cell (j := 5) (by omega)
  have B1 := Lib.hid (bt Bw0.out h1)
  clear h1
  go_wp2_with fail
  go_ret
  exact ⟨rfl, B1.out⟩
set_option maxRecDepth 100000 in
set_option maxHeartbeats 4000000 in
theorem walk_ok_ok (p : Tmf) (hp : TmWf p) (b : ByteArray) (hb : b.size ≤ maxLen) (w : World) (hl : ¬ 5000 < p.da.size) (hl2 : ¬ 5000 < b.size) (ok : Tm.Ok p) (hc : (Tm.get b.data.toList).2 = 0) : Calls Try.prog 6 #[tmVal p, .string b] w fun e w' => e = .returned (.bool true) ∧ Below w.heap.size w w' := by
  have hml := hp.1
  have hwo := hp.2
  unfold maxLen at hml hb
  have SH := Lib.hid (fun w => tshown_any w)
  obtain ⟨m, hm⟩ : ∃ m, p.da.size = m := ⟨_, rfl⟩
  obtain ⟨n, hn⟩ : ∃ n, b.size = n := ⟨_, rfl⟩
  rw [hm] at hml
  rw [hn] at hb
  have hmm : m ≤ 9223372036854775807 := by omega
  have T1 := Lib.hid (fun w => tput_any p (by omega) hwo w)
  rw [if_pos ok] at T1
  have el : (Tm.enc p).length = m + 12 := by rw [Tm.enc_len, hm]
  have T2 := Lib.hid (fun w => tget_any (bs (Tm.enc p)) (by rw [bs_size, el]; omega) w)
  rw [bs_list, Tm.get_enc ok hwo] at T2
  simp only at T2
  obtain ⟨E, hE⟩ : ∃ E, bs (Tm.enc p) = E := ⟨_, rfl⟩
  have sE : E.size = m + 12 := by rw [← hE, bs_size, el]
  rw [hE] at T1 T2
  have z0 : (p.da.toList == p.da.toList) = true := by simp
  have z1 : (p.da.toList != p.da.toList) = false := by simp
  obtain ⟨k, hk⟩ : ∃ k, m + 12 = k := ⟨_, rfl⟩
  rw [hk] at sE
  have wk : IntKind.i64.wrap ((m : Int) + 12) = (k : Int) := by rw [IntKind.wrap_i64]; omega
  have q1 : ((k : Int) != (k : Int)) = false := by simp
  have EQ := Lib.hid (show k ≤ 6000 by omega)
  clear el hE hk
  have T3 := Lib.hid (fun w => tget_any b (by omega) w)
  obtain ⟨o1, o2⟩ := Tm.get_ok hc
  have qw : (Tm.get b.data.toList).1.wo < 4294967296 := by
    unfold Tm.get
    split
    · show (0 : Nat) < _; omega
    · split
      · show (0 : Nat) < _; omega
      · split
        · exact Tm.dec_wo _
        · show (0 : Nat) < _; omega
  rw [hc] at T3
  obtain ⟨q, hq⟩ : ∃ q, (Tm.get b.data.toList).1 = q := ⟨_, rfl⟩
  rw [hq] at T3 o1 o2 qw
  have T4 := Lib.hid (fun w => tput_any q (by have := o1.1.2.2.2.2.2; omega) qw w)
  rw [if_pos o1, o2, bs_self] at T4
  have y1 : (b == b) = true := beq_same b
  have y2 : (b.toList == b.toList) = true := by simp
  clear o1 o2 qw hq hc
  rw [hm] at hl
  rw [hn] at hl2
  have t1 : decide (5000 < (m : Int)) = false := decide_eq_false (by omega)
  have t1n : decide (5000 < m) = false := decide_eq_false hl
  have t2 : decide (5000 < (n : Int)) = false := decide_eq_false (by omega)
  have t2n : decide (5000 < n) = false := decide_eq_false hl2
  clear hl hl2 hp ok hml
  go_enter Try.func6, Try.ntmps6
  go_wp2_with ((with_reducible refine atList ?_); refine wpList_new rfl (.box 24 (.tmp 0)) rfl (some 2) rfl #[.int .i64 p.cr, .int .i64 p.ch, .int .i64 p.ma, .int .i64 p.ct, .int .i64 p.fi, .string p.da, .int .u32 (p.wo : Nat)] 24 (fun X => .pointer (some ⟨X, 0, none⟩)) 7 (tmCel p) (tm_cells p) (box_tm rfl rfl) ?_; intro X w0 HX Sw0 CX Bw0)
  (with_reducible refine (SH.out _).mono ?_)
  rintro e w1 ⟨rfl, h1⟩
  have C21 := Lib.hid (CX.out.below h1)
  have cX : w1.cell? ⟨X, 5, none⟩ = some (.string p.da) := C21.out.cell (j := 5) (by omega)
  have B1 := Lib.hid (bt Bw0.out h1)
  clear h1
  go_wp2_with ((with_reducible refine atList ?_); refine wpList_getAll rfl 24 (.tmp 2) rfl X 7 [.int .i64 p.cr, .int .i64 p.ch, .int .i64 p.ma, .int .i64 p.ct, .int .i64 p.fi, .string p.da, .int .u32 (p.wo : Nat)] _ _ C21.out rfl (tm_list p) rfl Try.underlying24 rfl tm_info ?_)
  (refine (T1.out _).mono ?_)
  rintro e w2 ⟨rfl, h2⟩
  have B2 := Lib.hid (bt B1.out h2)
  have C22 := Lib.hid (C21.out.below h2)
  clear h2 cX
  go_wp2_with fail
  (refine (T2.out _).mono ?_)
  rintro e w3 ⟨rfl, h3⟩
  have B3 := Lib.hid (bt B2.out h3)
  have C23 := Lib.hid (C22.out.below h3)
  clear h3
  go_wp2_with (first
    | ((with_reducible refine atList ?_); refine wpList_new rfl (.alloc 24) rfl (some 7) rfl #[.int .i64 0, .int .i64 0, .int .i64 0, .int .i64 0, .int .i64 0, .string ⟨#[]⟩, .int .u32 0] 24 (fun X => .pointer (some ⟨X, 0, none⟩)) 7 (tmCel tm0) (tm_cells tm0) (alloc_tm rfl) ?_; intro X7 w4 HX7 Sw4 CX7 Bw4)
    | ((with_reducible refine atList ?_); refine wpList_setAll rfl 24 (.tmp 7) (.tmp 33) rfl X7 7 [.int .i64 p.cr, .int .i64 p.ch, .int .i64 p.ma, .int .i64 p.ct, .int .i64 p.fi, .string p.da, .int .u32 (p.wo : Nat)] _ (tmCel p) CX7.out rfl (tm_list p) rfl rfl tm_info (by simp [Value.oneCell']) ?_; intro w5 C5 U5 S5; have C25 := Lib.hid ((C23.out.below Bw4.out).but U5.out (by have := HX7.out; have := C23.out.1; omega)); have B5 := Lib.hid (But.under (bt B3.out Bw4.out) U5.out (by have := HX7.out; have := B3.out.size; omega)); have a0 : w5.cell? ⟨X, 0, none⟩ = some (.int .i64 p.cr) := C25.out.cell (j := 0) (by omega); have a1 : w5.cell? ⟨X, 1, none⟩ = some (.int .i64 p.ch) := C25.out.cell (j := 1) (by omega); have a2 : w5.cell? ⟨X, 2, none⟩ = some (.int .i64 p.ma) := C25.out.cell (j := 2) (by omega); have a3 : w5.cell? ⟨X, 3, none⟩ = some (.int .i64 p.ct) := C25.out.cell (j := 3) (by omega); have a4 : w5.cell? ⟨X, 4, none⟩ = some (.int .i64 p.fi) := C25.out.cell (j := 4) (by omega); have a5 : w5.cell? ⟨X, 5, none⟩ = some (.string p.da) := C25.out.cell (j := 5) (by omega); have a6 : w5.cell? ⟨X, 6, none⟩ = some (.int .u32 (p.wo : Nat)) := C25.out.cell (j := 6) (by omega); have b0 : w5.cell? ⟨X7, 0, none⟩ = some (.int .i64 p.cr) := C5.out.cell (j := 0) (by omega); have b1 : w5.cell? ⟨X7, 1, none⟩ = some (.int .i64 p.ch) := C5.out.cell (j := 1) (by omega); have b2 : w5.cell? ⟨X7, 2, none⟩ = some (.int .i64 p.ma) := C5.out.cell (j := 2) (by omega); have b3 : w5.cell? ⟨X7, 3, none⟩ = some (.int .i64 p.ct) := C5.out.cell (j := 3) (by omega); have b4 : w5.cell? ⟨X7, 4, none⟩ = some (.int .i64 p.fi) := C5.out.cell (j := 4) (by omega); have b5 : w5.cell? ⟨X7, 5, none⟩ = some (.string p.da) := C5.out.cell (j := 5) (by omega); have b6 : w5.cell? ⟨X7, 6, none⟩ = some (.int .u32 (p.wo : Nat)) := C5.out.cell (j := 6) (by omega)))
  (refine (T3.out _).mono ?_)
  rintro e w6 ⟨rfl, h6⟩
  clear a0 a1 a2 a3 a4 a5 a6 b0 b1 b2 b3 b4 b5 b6
  have B6 := Lib.hid (bt B5.out h6)
  clear h6
  go_wp2_with (first
    | ((with_reducible refine atList ?_); refine wpList_new rfl (.alloc 24) rfl (some 9) rfl #[.int .i64 0, .int .i64 0, .int .i64 0, .int .i64 0, .int .i64 0, .string ⟨#[]⟩, .int .u32 0] 24 (fun X => .pointer (some ⟨X, 0, none⟩)) 7 (tmCel tm0) (tm_cells tm0) (alloc_tm rfl) ?_; intro X9 w7 HX9 Sw7 CX9 Bw7)
    | ((with_reducible refine atList ?_); refine wpList_setAll rfl 24 (.tmp 9) (.tmp 54) rfl X9 7 [.int .i64 q.cr, .int .i64 q.ch, .int .i64 q.ma, .int .i64 q.ct, .int .i64 q.fi, .string q.da, .int .u32 (q.wo : Nat)] _ (tmCel q) CX9.out rfl (tm_list q) rfl rfl tm_info (by simp [Value.oneCell']) ?_; intro w8 C8 U8 S8)
    | ((with_reducible refine atList ?_); refine wpList_getAll rfl 24 (.tmp 9) rfl X9 7 [.int .i64 q.cr, .int .i64 q.ch, .int .i64 q.ma, .int .i64 q.ct, .int .i64 q.fi, .string q.da, .int .u32 (q.wo : Nat)] _ _ C8.out rfl (tm_list q) rfl Try.underlying24 rfl tm_info ?_))
  (refine (T4.out _).mono ?_)
  rintro e w9 ⟨rfl, h9⟩
  have B9 := Lib.hid (bt (But.under (bt B6.out Bw7.out) U8.out (by have := HX9.out; have := B6.out.size; omega)) h9)
  clear h9
  go_wp2_with fail
  go_ret
  exact ⟨by first | rfl | simp, B9.out⟩
set_option maxRecDepth 100000 in
set_option maxHeartbeats 4000000 in
theorem walk_ok_no (p : Tmf) (hp : TmWf p) (b : ByteArray) (hb : b.size ≤ maxLen) (w : World) (hl : ¬ 5000 < p.da.size) (hl2 : ¬ 5000 < b.size) (ok : Tm.Ok p) (hc : (Tm.get b.data.toList).2 ≠ 0) : Calls Try.prog 6 #[tmVal p, .string b] w fun e w' => e = .returned (.bool true) ∧ Below w.heap.size w w' := by
  have hml := hp.1
  have hwo := hp.2
  unfold maxLen at hml hb
  have SH := Lib.hid (fun w => tshown_any w)
  obtain ⟨m, hm⟩ : ∃ m, p.da.size = m := ⟨_, rfl⟩
  obtain ⟨n, hn⟩ : ∃ n, b.size = n := ⟨_, rfl⟩
  rw [hm] at hml
  rw [hn] at hb
  have hmm : m ≤ 9223372036854775807 := by omega
  have T1 := Lib.hid (fun w => tput_any p (by omega) hwo w)
  rw [if_pos ok] at T1
  have el : (Tm.enc p).length = m + 12 := by rw [Tm.enc_len, hm]
  have T2 := Lib.hid (fun w => tget_any (bs (Tm.enc p)) (by rw [bs_size, el]; omega) w)
  rw [bs_list, Tm.get_enc ok hwo] at T2
  simp only at T2
  obtain ⟨E, hE⟩ : ∃ E, bs (Tm.enc p) = E := ⟨_, rfl⟩
  have sE : E.size = m + 12 := by rw [← hE, bs_size, el]
  rw [hE] at T1 T2
  have z0 : (p.da.toList == p.da.toList) = true := by simp
  have z1 : (p.da.toList != p.da.toList) = false := by simp
  obtain ⟨k, hk⟩ : ∃ k, m + 12 = k := ⟨_, rfl⟩
  rw [hk] at sE
  have wk : IntKind.i64.wrap ((m : Int) + 12) = (k : Int) := by rw [IntKind.wrap_i64]; omega
  have q1 : ((k : Int) != (k : Int)) = false := by simp
  have EQ := Lib.hid (show k ≤ 6000 by omega)
  clear el hE hk
  have T3 := Lib.hid (fun w => tget_any b (by omega) w)
  rw [Tm.get_no hc] at T3
  obtain ⟨c, hcc⟩ : ∃ c, (Tm.get b.data.toList).2 = c := ⟨_, rfl⟩
  rw [hcc] at T3 hc
  have y1 : (c != 0) = true := by simp; exact hc
  clear hc hcc
  rw [hm] at hl
  rw [hn] at hl2
  have t1 : decide (5000 < (m : Int)) = false := decide_eq_false (by omega)
  have t1n : decide (5000 < m) = false := decide_eq_false hl
  have t2 : decide (5000 < (n : Int)) = false := decide_eq_false (by omega)
  have t2n : decide (5000 < n) = false := decide_eq_false hl2
  clear hl hl2 hp ok hml
  go_enter Try.func6, Try.ntmps6
  go_wp2_with ((with_reducible refine atList ?_); refine wpList_new rfl (.box 24 (.tmp 0)) rfl (some 2) rfl #[.int .i64 p.cr, .int .i64 p.ch, .int .i64 p.ma, .int .i64 p.ct, .int .i64 p.fi, .string p.da, .int .u32 (p.wo : Nat)] 24 (fun X => .pointer (some ⟨X, 0, none⟩)) 7 (tmCel p) (tm_cells p) (box_tm rfl rfl) ?_; intro X w0 HX Sw0 CX Bw0)
  (with_reducible refine (SH.out _).mono ?_)
  rintro e w1 ⟨rfl, h1⟩
  have C21 := Lib.hid (CX.out.below h1)
  have cX : w1.cell? ⟨X, 5, none⟩ = some (.string p.da) := C21.out.cell (j := 5) (by omega)
  have B1 := Lib.hid (bt Bw0.out h1)
  clear h1
  go_wp2_with ((with_reducible refine atList ?_); refine wpList_getAll rfl 24 (.tmp 2) rfl X 7 [.int .i64 p.cr, .int .i64 p.ch, .int .i64 p.ma, .int .i64 p.ct, .int .i64 p.fi, .string p.da, .int .u32 (p.wo : Nat)] _ _ C21.out rfl (tm_list p) rfl Try.underlying24 rfl tm_info ?_)
  (refine (T1.out _).mono ?_)
  rintro e w2 ⟨rfl, h2⟩
  have B2 := Lib.hid (bt B1.out h2)
  have C22 := Lib.hid (C21.out.below h2)
  clear h2 cX
  go_wp2_with fail
  (refine (T2.out _).mono ?_)
  rintro e w3 ⟨rfl, h3⟩
  have B3 := Lib.hid (bt B2.out h3)
  have C23 := Lib.hid (C22.out.below h3)
  clear h3
  go_wp2_with (first
    | ((with_reducible refine atList ?_); refine wpList_new rfl (.alloc 24) rfl (some 7) rfl #[.int .i64 0, .int .i64 0, .int .i64 0, .int .i64 0, .int .i64 0, .string ⟨#[]⟩, .int .u32 0] 24 (fun X => .pointer (some ⟨X, 0, none⟩)) 7 (tmCel tm0) (tm_cells tm0) (alloc_tm rfl) ?_; intro X7 w4 HX7 Sw4 CX7 Bw4)
    | ((with_reducible refine atList ?_); refine wpList_setAll rfl 24 (.tmp 7) (.tmp 33) rfl X7 7 [.int .i64 p.cr, .int .i64 p.ch, .int .i64 p.ma, .int .i64 p.ct, .int .i64 p.fi, .string p.da, .int .u32 (p.wo : Nat)] _ (tmCel p) CX7.out rfl (tm_list p) rfl rfl tm_info (by simp [Value.oneCell']) ?_; intro w5 C5 U5 S5; have C25 := Lib.hid ((C23.out.below Bw4.out).but U5.out (by have := HX7.out; have := C23.out.1; omega)); have B5 := Lib.hid (But.under (bt B3.out Bw4.out) U5.out (by have := HX7.out; have := B3.out.size; omega)); have a0 : w5.cell? ⟨X, 0, none⟩ = some (.int .i64 p.cr) := C25.out.cell (j := 0) (by omega); have a1 : w5.cell? ⟨X, 1, none⟩ = some (.int .i64 p.ch) := C25.out.cell (j := 1) (by omega); have a2 : w5.cell? ⟨X, 2, none⟩ = some (.int .i64 p.ma) := C25.out.cell (j := 2) (by omega); have a3 : w5.cell? ⟨X, 3, none⟩ = some (.int .i64 p.ct) := C25.out.cell (j := 3) (by omega); have a4 : w5.cell? ⟨X, 4, none⟩ = some (.int .i64 p.fi) := C25.out.cell (j := 4) (by omega); have a5 : w5.cell? ⟨X, 5, none⟩ = some (.string p.da) := C25.out.cell (j := 5) (by omega); have a6 : w5.cell? ⟨X, 6, none⟩ = some (.int .u32 (p.wo : Nat)) := C25.out.cell (j := 6) (by omega); have b0 : w5.cell? ⟨X7, 0, none⟩ = some (.int .i64 p.cr) := C5.out.cell (j := 0) (by omega); have b1 : w5.cell? ⟨X7, 1, none⟩ = some (.int .i64 p.ch) := C5.out.cell (j := 1) (by omega); have b2 : w5.cell? ⟨X7, 2, none⟩ = some (.int .i64 p.ma) := C5.out.cell (j := 2) (by omega); have b3 : w5.cell? ⟨X7, 3, none⟩ = some (.int .i64 p.ct) := C5.out.cell (j := 3) (by omega); have b4 : w5.cell? ⟨X7, 4, none⟩ = some (.int .i64 p.fi) := C5.out.cell (j := 4) (by omega); have b5 : w5.cell? ⟨X7, 5, none⟩ = some (.string p.da) := C5.out.cell (j := 5) (by omega); have b6 : w5.cell? ⟨X7, 6, none⟩ = some (.int .u32 (p.wo : Nat)) := C5.out.cell (j := 6) (by omega)))
  (refine (T3.out _).mono ?_)
  rintro e w6 ⟨rfl, h6⟩
  clear a0 a1 a2 a3 a4 a5 a6 b0 b1 b2 b3 b4 b5 b6
  have B6 := Lib.hid (bt B5.out h6)
  clear h6
  go_wp2_with (first
    | ((with_reducible refine atList ?_); refine wpList_new rfl (.alloc 24) rfl (some 9) rfl #[.int .i64 0, .int .i64 0, .int .i64 0, .int .i64 0, .int .i64 0, .string ⟨#[]⟩, .int .u32 0] 24 (fun X => .pointer (some ⟨X, 0, none⟩)) 7 (tmCel tm0) (tm_cells tm0) (alloc_tm rfl) ?_; intro X9 w7 HX9 Sw7 CX9 Bw7)
    | ((with_reducible refine atList ?_); refine wpList_setAll rfl 24 (.tmp 9) (.tmp 54) rfl X9 7 [.int .i64 tm0.cr, .int .i64 tm0.ch, .int .i64 tm0.ma, .int .i64 tm0.ct, .int .i64 tm0.fi, .string tm0.da, .int .u32 (tm0.wo : Nat)] _ (tmCel tm0) CX9.out rfl (tm_list tm0) rfl rfl tm_info (by simp [Value.oneCell']) ?_; intro w8 C8 U8 S8)
    | ((with_reducible refine atList ?_); refine wpList_getAll rfl 24 (.tmp 9) rfl X9 7 [.int .i64 tm0.cr, .int .i64 tm0.ch, .int .i64 tm0.ma, .int .i64 tm0.ct, .int .i64 tm0.fi, .string tm0.da, .int .u32 (tm0.wo : Nat)] _ _ C8.out rfl (tm_list tm0) rfl Try.underlying24 rfl tm_info ?_))
  all_goals first | (exfalso; exact (by assumption : ¬ tm0.da.toList = []) (by first | rfl | decide | (simp [tm0, ByteArray.toList]; unfold ByteArray.toList.loop; simp; intro h; exact absurd h (by decide)))) | (exfalso; exact (by assumption : ¬ tm0.cr = 0) rfl) | (exfalso; exact (by assumption : ¬ tm0.ch = 0) rfl) | (exfalso; exact (by assumption : ¬ tm0.ma = 0) rfl) | (exfalso; exact (by assumption : ¬ tm0.ct = 0) rfl) | (exfalso; exact (by assumption : ¬ tm0.fi = 0) rfl) | skip
  go_ret
  exact ⟨by first | rfl | simp [tm0], But.under (bt B6.out Bw7.out) U8.out (by have := HX9.out; have := B6.out.size; omega)⟩
set_option maxRecDepth 100000 in
set_option maxHeartbeats 4000000 in
theorem walk_no_ok (p : Tmf) (hp : TmWf p) (b : ByteArray) (hb : b.size ≤ maxLen) (w : World) (hl : ¬ 5000 < p.da.size) (hl2 : ¬ 5000 < b.size) (ok : ¬ Tm.Ok p) (hc : (Tm.get b.data.toList).2 = 0) : Calls Try.prog 6 #[tmVal p, .string b] w fun e w' => e = .returned (.bool true) ∧ Below w.heap.size w w' := by
  have hml := hp.1
  have hwo := hp.2
  unfold maxLen at hml hb
  have SH := Lib.hid (fun w => tshown_any w)
  obtain ⟨m, hm⟩ : ∃ m, p.da.size = m := ⟨_, rfl⟩
  obtain ⟨n, hn⟩ : ∃ n, b.size = n := ⟨_, rfl⟩
  rw [hm] at hml
  rw [hn] at hb
  have hmm : m ≤ 9223372036854775807 := by omega
  have T1 := Lib.hid (fun w => tput_any p (by omega) hwo w)
  rw [if_neg ok] at T1
  have T3 := Lib.hid (fun w => tget_any b (by omega) w)
  obtain ⟨o1, o2⟩ := Tm.get_ok hc
  have qw : (Tm.get b.data.toList).1.wo < 4294967296 := by
    unfold Tm.get
    split
    · show (0 : Nat) < _; omega
    · split
      · show (0 : Nat) < _; omega
      · split
        · exact Tm.dec_wo _
        · show (0 : Nat) < _; omega
  rw [hc] at T3
  obtain ⟨q, hq⟩ : ∃ q, (Tm.get b.data.toList).1 = q := ⟨_, rfl⟩
  rw [hq] at T3 o1 o2 qw
  have T4 := Lib.hid (fun w => tput_any q (by have := o1.1.2.2.2.2.2; omega) qw w)
  rw [if_pos o1, o2, bs_self] at T4
  have y1 : (b == b) = true := beq_same b
  have y2 : (b.toList == b.toList) = true := by simp
  clear o1 o2 qw hq hc
  rw [hm] at hl
  rw [hn] at hl2
  have t1 : decide (5000 < (m : Int)) = false := decide_eq_false (by omega)
  have t1n : decide (5000 < m) = false := decide_eq_false hl
  have t2 : decide (5000 < (n : Int)) = false := decide_eq_false (by omega)
  have t2n : decide (5000 < n) = false := decide_eq_false hl2
  clear hl hl2 hp ok hml
  go_enter Try.func6, Try.ntmps6
  go_wp2_with ((with_reducible refine atList ?_); refine wpList_new rfl (.box 24 (.tmp 0)) rfl (some 2) rfl #[.int .i64 p.cr, .int .i64 p.ch, .int .i64 p.ma, .int .i64 p.ct, .int .i64 p.fi, .string p.da, .int .u32 (p.wo : Nat)] 24 (fun X => .pointer (some ⟨X, 0, none⟩)) 7 (tmCel p) (tm_cells p) (box_tm rfl rfl) ?_; intro X w0 HX Sw0 CX Bw0)
  (with_reducible refine (SH.out _).mono ?_)
  rintro e w1 ⟨rfl, h1⟩
  have C21 := Lib.hid (CX.out.below h1)
  have cX : w1.cell? ⟨X, 5, none⟩ = some (.string p.da) := C21.out.cell (j := 5) (by omega)
  have B1 := Lib.hid (bt Bw0.out h1)
  clear h1
  go_wp2_with ((with_reducible refine atList ?_); refine wpList_getAll rfl 24 (.tmp 2) rfl X 7 [.int .i64 p.cr, .int .i64 p.ch, .int .i64 p.ma, .int .i64 p.ct, .int .i64 p.fi, .string p.da, .int .u32 (p.wo : Nat)] _ _ C21.out rfl (tm_list p) rfl Try.underlying24 rfl tm_info ?_)
  (refine (T1.out _).mono ?_)
  rintro e w2 ⟨rfl, h2⟩
  have B2 := Lib.hid (bt B1.out h2)
  have C22 := Lib.hid (C21.out.below h2)
  clear h2 cX
  have B5 := B2
  go_wp2_with fail
  (refine (T3.out _).mono ?_)
  rintro e w6 ⟨rfl, h6⟩
  have B6 := Lib.hid (bt B5.out h6)
  clear h6
  go_wp2_with (first
    | ((with_reducible refine atList ?_); refine wpList_new rfl (.alloc 24) rfl (some 9) rfl #[.int .i64 0, .int .i64 0, .int .i64 0, .int .i64 0, .int .i64 0, .string ⟨#[]⟩, .int .u32 0] 24 (fun X => .pointer (some ⟨X, 0, none⟩)) 7 (tmCel tm0) (tm_cells tm0) (alloc_tm rfl) ?_; intro X9 w7 HX9 Sw7 CX9 Bw7)
    | ((with_reducible refine atList ?_); refine wpList_setAll rfl 24 (.tmp 9) (.tmp 54) rfl X9 7 [.int .i64 q.cr, .int .i64 q.ch, .int .i64 q.ma, .int .i64 q.ct, .int .i64 q.fi, .string q.da, .int .u32 (q.wo : Nat)] _ (tmCel q) CX9.out rfl (tm_list q) rfl rfl tm_info (by simp [Value.oneCell']) ?_; intro w8 C8 U8 S8)
    | ((with_reducible refine atList ?_); refine wpList_getAll rfl 24 (.tmp 9) rfl X9 7 [.int .i64 q.cr, .int .i64 q.ch, .int .i64 q.ma, .int .i64 q.ct, .int .i64 q.fi, .string q.da, .int .u32 (q.wo : Nat)] _ _ C8.out rfl (tm_list q) rfl Try.underlying24 rfl tm_info ?_))
  (refine (T4.out _).mono ?_)
  rintro e w9 ⟨rfl, h9⟩
  have B9 := Lib.hid (bt (But.under (bt B6.out Bw7.out) U8.out (by have := HX9.out; have := B6.out.size; omega)) h9)
  clear h9
  go_wp2_with fail
  go_ret
  exact ⟨by first | rfl | simp, B9.out⟩
set_option maxRecDepth 100000 in
set_option maxHeartbeats 4000000 in
theorem walk_no_no (p : Tmf) (hp : TmWf p) (b : ByteArray) (hb : b.size ≤ maxLen) (w : World) (hl : ¬ 5000 < p.da.size) (hl2 : ¬ 5000 < b.size) (ok : ¬ Tm.Ok p) (hc : (Tm.get b.data.toList).2 ≠ 0) : Calls Try.prog 6 #[tmVal p, .string b] w fun e w' => e = .returned (.bool true) ∧ Below w.heap.size w w' := by
  have hml := hp.1
  have hwo := hp.2
  unfold maxLen at hml hb
  have SH := Lib.hid (fun w => tshown_any w)
  obtain ⟨m, hm⟩ : ∃ m, p.da.size = m := ⟨_, rfl⟩
  obtain ⟨n, hn⟩ : ∃ n, b.size = n := ⟨_, rfl⟩
  rw [hm] at hml
  rw [hn] at hb
  have hmm : m ≤ 9223372036854775807 := by omega
  have T1 := Lib.hid (fun w => tput_any p (by omega) hwo w)
  rw [if_neg ok] at T1
  have T3 := Lib.hid (fun w => tget_any b (by omega) w)
  rw [Tm.get_no hc] at T3
  obtain ⟨c, hcc⟩ : ∃ c, (Tm.get b.data.toList).2 = c := ⟨_, rfl⟩
  rw [hcc] at T3 hc
  have y1 : (c != 0) = true := by simp; exact hc
  clear hc hcc
  rw [hm] at hl
  rw [hn] at hl2
  have t1 : decide (5000 < (m : Int)) = false := decide_eq_false (by omega)
  have t1n : decide (5000 < m) = false := decide_eq_false hl
  have t2 : decide (5000 < (n : Int)) = false := decide_eq_false (by omega)
  have t2n : decide (5000 < n) = false := decide_eq_false hl2
  clear hl hl2 hp ok hml
  go_enter Try.func6, Try.ntmps6
  go_wp2_with ((with_reducible refine atList ?_); refine wpList_new rfl (.box 24 (.tmp 0)) rfl (some 2) rfl #[.int .i64 p.cr, .int .i64 p.ch, .int .i64 p.ma, .int .i64 p.ct, .int .i64 p.fi, .string p.da, .int .u32 (p.wo : Nat)] 24 (fun X => .pointer (some ⟨X, 0, none⟩)) 7 (tmCel p) (tm_cells p) (box_tm rfl rfl) ?_; intro X w0 HX Sw0 CX Bw0)
  (with_reducible refine (SH.out _).mono ?_)
  rintro e w1 ⟨rfl, h1⟩
  have C21 := Lib.hid (CX.out.below h1)
  have cX : w1.cell? ⟨X, 5, none⟩ = some (.string p.da) := C21.out.cell (j := 5) (by omega)
  have B1 := Lib.hid (bt Bw0.out h1)
  clear h1
  go_wp2_with ((with_reducible refine atList ?_); refine wpList_getAll rfl 24 (.tmp 2) rfl X 7 [.int .i64 p.cr, .int .i64 p.ch, .int .i64 p.ma, .int .i64 p.ct, .int .i64 p.fi, .string p.da, .int .u32 (p.wo : Nat)] _ _ C21.out rfl (tm_list p) rfl Try.underlying24 rfl tm_info ?_)
  (refine (T1.out _).mono ?_)
  rintro e w2 ⟨rfl, h2⟩
  have B2 := Lib.hid (bt B1.out h2)
  have C22 := Lib.hid (C21.out.below h2)
  clear h2 cX
  have B5 := B2
  go_wp2_with fail
  (refine (T3.out _).mono ?_)
  rintro e w6 ⟨rfl, h6⟩
  have B6 := Lib.hid (bt B5.out h6)
  clear h6
  go_wp2_with (first
    | ((with_reducible refine atList ?_); refine wpList_new rfl (.alloc 24) rfl (some 9) rfl #[.int .i64 0, .int .i64 0, .int .i64 0, .int .i64 0, .int .i64 0, .string ⟨#[]⟩, .int .u32 0] 24 (fun X => .pointer (some ⟨X, 0, none⟩)) 7 (tmCel tm0) (tm_cells tm0) (alloc_tm rfl) ?_; intro X9 w7 HX9 Sw7 CX9 Bw7)
    | ((with_reducible refine atList ?_); refine wpList_setAll rfl 24 (.tmp 9) (.tmp 54) rfl X9 7 [.int .i64 tm0.cr, .int .i64 tm0.ch, .int .i64 tm0.ma, .int .i64 tm0.ct, .int .i64 tm0.fi, .string tm0.da, .int .u32 (tm0.wo : Nat)] _ (tmCel tm0) CX9.out rfl (tm_list tm0) rfl rfl tm_info (by simp [Value.oneCell']) ?_; intro w8 C8 U8 S8)
    | ((with_reducible refine atList ?_); refine wpList_getAll rfl 24 (.tmp 9) rfl X9 7 [.int .i64 tm0.cr, .int .i64 tm0.ch, .int .i64 tm0.ma, .int .i64 tm0.ct, .int .i64 tm0.fi, .string tm0.da, .int .u32 (tm0.wo : Nat)] _ _ C8.out rfl (tm_list tm0) rfl Try.underlying24 rfl tm_info ?_))
  all_goals first | (exfalso; exact (by assumption : ¬ tm0.da.toList = []) (by first | rfl | decide | (simp [tm0, ByteArray.toList]; unfold ByteArray.toList.loop; simp; intro h; exact absurd h (by decide)))) | (exfalso; exact (by assumption : ¬ tm0.cr = 0) rfl) | (exfalso; exact (by assumption : ¬ tm0.ch = 0) rfl) | (exfalso; exact (by assumption : ¬ tm0.ma = 0) rfl) | (exfalso; exact (by assumption : ¬ tm0.ct = 0) rfl) | (exfalso; exact (by assumption : ¬ tm0.fi = 0) rfl) | skip
  go_ret
  exact ⟨by first | rfl | simp [tm0], But.under (bt B6.out Bw7.out) U8.out (by have := HX9.out; have := B6.out.size; omega)⟩
theorem walk (p : Tmf) (hp : TmWf p) (b : ByteArray) (hb : b.size ≤ maxLen) (w : World) : Calls Try.prog 6 #[tmVal p, .string b] w fun e w' => e = .returned (.bool true) ∧ Below w.heap.size w w' := by
  by_cases hl : 5000 < p.da.size
  · exact walk_long1 p hp b hb w hl
  · by_cases hl2 : 5000 < b.size
    · exact walk_long2 p hp b hb w hl hl2
    · by_cases ok : Tm.Ok p <;> by_cases hc : (Tm.get b.data.toList).2 = 0
      · exact walk_ok_ok p hp b hb w hl hl2 ok hc
      · exact walk_ok_no p hp b hb w hl hl2 ok hc
      · exact walk_no_ok p hp b hb w hl hl2 ok hc
      · exact walk_no_no p hp b hb w hl hl2 ok hc

set_option maxRecDepth 100000 in
theorem lifted (os : Os) (started : os.Started) (H : Type) (enc : TypeId × Value → H) :
    ReturnsInHanded {} Try.checked os 6 .any (Rows.tmframeBackSpec.pre6 enc Try.prog Try.f6 Rows.tmframeBackRow.domain false) (Rows.tmframeBackSpec.post enc Try.prog Try.f6 false true false false) := by
  refine returnsInHanded_of_change (C := Try.checked) own started (by kernel_rfl) Try.func6
    (ChangeSpec.witness6 (enc := enc) (C := Try.checked) false ⟨#[], #[.agg #[.int .i64 0, .int .i64 0, .int .i64 0, .int .i64 0, .int .i64 0, .string { data := #[] }, .int .u32 0], .string { data := #[] }], []⟩ 8 (by kernel_rfl) (by kernel_rfl) (by kernel_rfl) (by kernel_rfl)) ?_
  intro W base args ds gs before hval0 hW _ _
  have hval : ∀ (j : Nat) t v, Try.f6.params[j]? = some t → args[j]? = some v → Value.okWide Try.prog W .any base t v := hval0
  have hW' := hW
  obtain ⟨p, q, hA0, hV, rfl, hfz, hnd⟩ := hW
  have hA : DataW.TrodAll enc Try.prog W 0 (fun _ => true) true Try.f6.params.toList args.toList ds p := hA0
  rw [Try.params6] at hA hval
  obtain ⟨v0, vs0, d0, ds0, p0, q0, hargs, rfl, rfl, h0, r0⟩ := trodAll_cons hA
  obtain ⟨v1, vs1, d1, ds1, p1, q1, rfl, rfl, rfl, h1, r1⟩ := trodAll_cons r0
  obtain ⟨rfl, rfl, rfl⟩ := trodAll_nil r1
  obtain rfl : args = #[v0, v1] := by cases args; simp_all
  obtain ⟨rfl, rfl⟩ := trodVars_none hV
  obtain ⟨a0, rfl, w0, shut0⟩ := frame_arg (hval 0 24 v0 rfl rfl) h0
  obtain ⟨a1, rfl, rfl, rfl, w1⟩ := ChangeMaps.open_string Try.underlying9 (hval 1 9 v1 rfl rfl) h1
  clear hA0 hval0
  simp only [List.append_nil] at hW'
  refine (walk a0 w0 a1 w1 W).mono fun e W' ⟨he, hg⟩ => ?_
  subst he
  exact ⟨_, rfl, post_of_below (pa := (p0 ++ ([] ++ []))) (pv := []) hW' (fun _ _ _ => trodAll_cons_mk (shut_bool Try.underlying4 _) trodAll_mk0) (fun sp hsp => (trodAll_cons_mk (shut0 W' hg sp (fun q hq => hsp q (by simp [hq]))) (trodAll_cons_mk (ChangeMaps.shut_string Try.underlying9 w1) trodAll_mk0))) (fun _ _ => rfl) (by simp)
    hg (ok_one (by kernel_rfl) rfl (okWide_bool_mk Try.underlying4 _))⟩

theorem proved : Rows.TmframeBackSaid :=
  OpenClaim.holds_of_wide 6 Try.f6 rfl rfl rfl rfl rfl rfl rfl ⟨rfl, rfl, rfl, rfl, rfl⟩ rfl rfl rfl rfl rfl (by kernel_rfl) Try.func6 (by kernel_rfl)
    (of_decide_eq_true (by kernel_rfl)) (by unfold Func.isWrapper; first | (rw [if_pos (by decide +kernel)]; kernel_rfl) | (rw [if_neg (by decide +kernel)]; exact ⟨rfl, rfl⟩))
    (fun os started H enc _ => lifted os started H enc)
#print axioms proved
end tmframeBack
end Go.Proofs.Ytgcjfiablcjfgaa
