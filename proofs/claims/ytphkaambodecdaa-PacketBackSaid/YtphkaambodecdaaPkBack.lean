/- PacketBack: Put, Get and Take invert each other. No condition. -/
import Derived.Test.YtphkaambodecdaaPkEq
import Derived.Test.YtphkaambodecdaaRowKit
import Derived.Test.YtphkaambodecdaaPkArg
import Derived.Test.YtphkaambodecdaaPickKit
import Derived.ProofKit
namespace Go.Proofs.Ytphkaambodecdaa
open Go.ChangeShapes Go.WideShapes Go.ChangeAt Go.RowKit
set_option linter.unusedVariables false

namespace packetBack
section
variable {H : Type} {enc : TypeId × Value → H}
theorem packet_weight {w : World} {q : Pkt} {d : DataW H} {p : List MemPlace} (hd : DataW.Trod enc Try.prog w 0 (fun _ => true) true 23 (pkVal q) d p) : q.da.size ∈ d.weights Try.prog 23 := by
  obtain ⟨f0, f1, f2, f3, f4, uS, uO, e0, e1, e2, e3, e4⟩ := under_packet
  obtain ⟨fuel, h⟩ := hd
  obtain ⟨o4, k4⟩ := Deep.hone_of uO 4 f4 rfl
  obtain ⟨xs, m, _, hy, hl, hlen, hf⟩ := DataW.trod_struct uS h
  match xs, hlen with
  | [y0, y1, y2, y3, y4], _ =>
    have h4 := hf 4 f4 rfl
    have c : (pkVal q).cells.toList = pkCells q := rfl
    rw [o4, k4, e4, c] at h4
    simp only [pkCells, List.drop_zero, List.drop_succ_cons, List.take_succ_cons, List.take_zero] at h4
    obtain ⟨s, c4, y4e, _⟩ := DataW.trod_string Try.underlying9 h4
    simp only [List.cons.injEq, and_true, Value.string.injEq] at c4
    subst c4
    have hd := congrArg Prod.fst hy
    simp only at hd
    rw [hd]
    simp [DataW.weights, DataW.weightsEach, uS, y4e]
end
theorem getV_enc {p : Pkt} (h : Pk.Ok p) : getV (Pk.enc p) = .tuple #[pkVal p, .int .i64 0] := by
  have e := Pk.take_enc h []
  rw [List.append_nil] at e
  unfold getV
  rw [e]
  simp
theorem bs_add (x : List UInt8) (a : ByteArray) : (bs x ++ a).data.toList = x ++ a.data.toList := by simp [bs]
theorem bs_ext (x : List UInt8) (k : Nat) : ((bs x).extract 0 k).data.toList = x.take k := by
  simp [bs, ByteArray.data_extract]
set_option maxRecDepth 100000 in
set_option maxHeartbeats 4000000 in
theorem walk_long (p : Pkt) (hp : PkWf p) (zp : p.da.size ≤ reachBytes) (a : ByteArray) (ha : a.size ≤ maxLen) (za : a.size ≤ reachBytes) (cut : Int) (hc : (Lit.int .i64 cut).wf = true) (w : World) (hl : 20000 < p.da.size + a.size) : Calls Try.prog 7 #[pkVal p, .string a, .int .i64 cut] w fun e w' => e = .returned (.bool true) ∧ Below w.heap.size w w' := by
  have SH := Lib.hid (fun w => shown_any w)
  obtain ⟨m, hm⟩ : ∃ m, p.da.size = m := ⟨_, rfl⟩
  obtain ⟨n, hn⟩ : ∃ n, a.size = n := ⟨_, rfl⟩
  have hml := hp.2.2.2
  have ha' := ha
  unfold maxLen at hml ha'
  unfold reachBytes at zp za
  have hs : m + n ≤ 9223372036854775807 := by omega
  have hmm : m ≤ 9223372036854775807 := by omega
  have hnn : n ≤ 9223372036854775807 := by omega
  obtain ⟨z, hz⟩ : ∃ z, m + n = z := ⟨_, rfl⟩
  have wz : IntKind.i64.wrap ((m : Int) + (n : Int)) = (z : Int) := by rw [IntKind.wrap_i64]; omega
  rw [hm, hn, hz] at hl
  have t1 : decide (20000 < (z : Int)) = true := decide_eq_true (by omega)
  have t1n : decide (20000 < z) = true := decide_eq_true hl
  clear hl hz hp hml ha ha' zp za
  go_enter Try.func7, Try.ntmps7
  go_wp2_with (refine wpList_new rfl (.box 23 (.tmp 0)) rfl (some 3) rfl #[.bool p.cmd, .int .i64 p.ap, .int .i64 p.fl, .int .i64 p.ct, .string p.da] 23 (fun X => .pointer (some ⟨X, 0, none⟩)) 5 (pkCel p) (pk_cells p) (box_pk rfl rfl) ?_; intro X w0 HX Sw0 CX Bw0)
  (with_reducible refine (SH.out _).mono ?_)
  rintro e w1 ⟨rfl, h1⟩
  have C31 := Lib.hid (CX.out.below h1)
  have cX : w1.cell? ⟨X, 4, none⟩ = some (.string p.da) := C31.out.cell (j := 4) (by omega)
  have B1 := Lib.hid (bt Bw0.out h1)
  clear h1
  go_wp2_with fail
  go_ret
  exact ⟨rfl, B1.out⟩
set_option maxRecDepth 100000 in
set_option maxHeartbeats 4000000 in
theorem walk_ok_put (p : Pkt) (hp : PkWf p) (zp : p.da.size ≤ reachBytes) (a : ByteArray) (ha : a.size ≤ maxLen) (za : a.size ≤ reachBytes) (cut : Int) (hc : (Lit.int .i64 cut).wf = true) (w : World) (hl : ¬ 20000 < p.da.size + a.size) (ok : Pk.Ok p) (q0 : Pkt) (k0 : Nat) (co : Int) (hv : tkV (Pk.take a.data.toList) = .tuple #[pkVal q0, .int .i64 k0, .int .i64 co]) (hr : co = 0 ∧ Pk.take a.data.toList = .ok q0 k0) : Calls Try.prog 7 #[pkVal p, .string a, .int .i64 cut] w fun e w' => e = .returned (.bool true) ∧ Below w.heap.size w w' := by
  have SH := Lib.hid (fun w => shown_any w)
  obtain ⟨m, hm⟩ : ∃ m, p.da.size = m := ⟨_, rfl⟩
  obtain ⟨n, hn⟩ : ∃ n, a.size = n := ⟨_, rfl⟩
  have hml := hp.2.2.2
  have ha' := ha
  unfold maxLen at hml ha'
  unfold reachBytes at zp za
  have hs : m + n ≤ 9223372036854775807 := by omega
  have hmm : m ≤ 9223372036854775807 := by omega
  have hnn : n ≤ 9223372036854775807 := by omega
  obtain ⟨z, hz⟩ : ∃ z, m + n = z := ⟨_, rfl⟩
  have wz : IntKind.i64.wrap ((m : Int) + (n : Int)) = (z : Int) := by rw [IntKind.wrap_i64]; omega
  rw [hm, hn, hz] at hl
  have t1 : decide (20000 < (z : Int)) = false := decide_eq_false (by omega)
  have t1n : decide (20000 < z) = false := decide_eq_false hl
  have T1 := Lib.hid (fun w => ptake_any a (by omega) w)
  have T3 := Lib.hid (fun w => pput_any p hp.2.2.2 w)
  rw [hv] at T1
  obtain ⟨rfl, hk⟩ := hr
  obtain ⟨okq, hk1, hk2⟩ := Pk.take_ok hk
  have qsz : q0.da.size ≤ maxLen := by
    have e1 := congrArg List.length hk2
    rw [Pk.enc_len, List.length_take, ls] at e1
    unfold maxLen
    omega
  have T2 := Lib.hid (fun w => pput_any q0 qsz w)
  rw [if_pos okq] at T2
  obtain ⟨S0, hS0⟩ : ∃ S0, bs (Pk.enc q0) = S0 := ⟨_, rfl⟩
  rw [hS0] at T2
  have hk3 : k0 ≤ n := by rw [ls] at hk1; omega
  have ex0 : a.extract 0 k0 = S0 := by
    rw [← hS0, ← hk2]
    apply ByteArray.ext
    apply Array.toList_inj.1
    simp [bs, ByteArray.data_extract]
  have ex0' : a.extract 0 ((k0 : Int)).toNat = S0 := by rw [Int.toNat_natCast]; exact ex0
  have z0 : (S0.toList == S0.toList) = true := by simp
  have u1 : decide ((n : Int) < (k0 : Int)) = false := decide_eq_false (by omega)
  have u1n : decide (n < k0) = false := decide_eq_false (by omega)
  clear hk hk1 hk2 okq qsz hS0
  rw [if_pos ok] at T3
  obtain ⟨N, hN⟩ : ∃ N, (Pk.enc p).length = N := ⟨_, rfl⟩
  have hN6 := Pk.enc_len p
  rw [hN, hm] at hN6
  obtain ⟨S, hS⟩ : ∃ S, bs (Pk.enc p) = S := ⟨_, rfl⟩
  have Ssz : S.size = N := by rw [← hS, bs_size, hN]
  have T5 := Lib.hid (fun w => pget_any S (by omega) w)
  have T6 := Lib.hid (fun w => ptake_any (S ++ a) (by rw [ByteArray.size_append]; omega) w)
  rw [← hS, bs_list, getV_enc ok, hS] at T5
  rw [show (S ++ a).data.toList = Pk.enc p ++ a.data.toList by rw [← hS]; exact bs_add _ _, Pk.take_enc ok, hN] at T6
  simp only [tkV] at T6
  have T7 := Lib.hid (fun w => pick_any cut hc N (by omega) (by omega) w)
  obtain ⟨r, hrr⟩ : ∃ r, (cut % (N : Int)).toNat = r := ⟨_, rfl⟩
  have hrN : r < N := by
    have e0 := Int.emod_nonneg cut (show (N : Int) ≠ 0 by omega)
    have e1 := Int.emod_lt_of_pos cut (show 0 < (N : Int) by omega)
    omega
  rw [hrr] at T7
  obtain ⟨S1, hS1⟩ : ∃ S1, S.extract 0 r = S1 := ⟨_, rfl⟩
  have T8 := Lib.hid (fun w => ptake_any S1 (by rw [← hS1, ByteArray.size_extract]; omega) w)
  rw [show S1.data.toList = (Pk.enc p).take r by rw [← hS1, ← hS]; exact bs_ext _ _, Pk.take_cut ok r (by omega)] at T8
  simp only [tkV] at T8
  have hS1' : S.extract 0 ((r : Int)).toNat = S1 := by rw [Int.toNat_natCast]; exact hS1
  have hNn : N + n ≤ 9223372036854775807 := by omega
  rw [hS] at T3
  have z4 : (p.da.toList == p.da.toList) = true := by simp
  clear hS hN hrr ok hN6
  clear hl hz hp hml ha ha' zp za hv
  go_enter Try.func7, Try.ntmps7
  go_wp2_with (refine wpList_new rfl (.box 23 (.tmp 0)) rfl (some 3) rfl #[.bool p.cmd, .int .i64 p.ap, .int .i64 p.fl, .int .i64 p.ct, .string p.da] 23 (fun X => .pointer (some ⟨X, 0, none⟩)) 5 (pkCel p) (pk_cells p) (box_pk rfl rfl) ?_; intro X w0 HX Sw0 CX Bw0)
  (with_reducible refine (SH.out _).mono ?_)
  rintro e w1 ⟨rfl, h1⟩
  have C31 := Lib.hid (CX.out.below h1)
  have cX : w1.cell? ⟨X, 4, none⟩ = some (.string p.da) := C31.out.cell (j := 4) (by omega)
  have B1 := Lib.hid (bt Bw0.out h1)
  clear h1
  go_wp2_with fail
  (with_reducible refine (T1.out _).mono ?_)
  rintro e w2 ⟨rfl, h2⟩
  have B2 := Lib.hid (bt B1.out h2)
  have C32 := Lib.hid (C31.out.below h2)
  clear h2 cX
  go_wp2_with (first
    | (refine wpList_new rfl (.alloc 23) rfl (some 7) rfl #[.bool false, .int .i64 0, .int .i64 0, .int .i64 0, .string ⟨#[]⟩] 23 (fun X => .pointer (some ⟨X, 0, none⟩)) 5 (pkCel pk0) (pk_cells pk0) (alloc_pk rfl) ?_; intro X7 w3 HX7 Sw3 CX7 Bw3)
    | (refine wpList_setAll rfl 23 (.tmp 7) (.tmp 31) rfl X7 5 [.bool q0.cmd, .int .i64 q0.ap, .int .i64 q0.fl, .int .i64 q0.ct, .string q0.da] _ (pkCel q0) CX7.out rfl (pk_list q0) rfl rfl pk_info (by simp [Value.oneCell']) ?_; intro w4 C4 U4 S4; have C34 := Lib.hid ((C32.out.below Bw3.out).but U4.out (by have := HX7.out; have := C32.out.1; omega)))
    | (refine wpList_getAll rfl 23 (.tmp 7) rfl X7 5 [.bool q0.cmd, .int .i64 q0.ap, .int .i64 q0.fl, .int .i64 q0.ct, .string q0.da] _ _ C4.out rfl (pk_list q0) rfl Try.underlying23 rfl pk_info ?_))
  have B4 := Lib.hid (But.under (bt B2.out Bw3.out) U4.out (by have := HX7.out; have := B2.out.size; omega))
  (refine (T2.out _).mono ?_)
  rintro e w5 ⟨rfl, h5⟩
  have B5 := Lib.hid (bt B4.out h5)
  have C35 := Lib.hid (C34.out.below h5)
  have C75 := Lib.hid (C4.out.below h5)
  clear h5
  go_wp2_with (refine wpList_getAll rfl 23 (.tmp 3) rfl X 5 [.bool p.cmd, .int .i64 p.ap, .int .i64 p.fl, .int .i64 p.ct, .string p.da] _ _ C35.out rfl (pk_list p) rfl Try.underlying23 rfl pk_info ?_)
  (refine (T3.out _).mono ?_)
  rintro e w6 ⟨rfl, h6⟩
  have B6 := Lib.hid (bt B5.out h6)
  have C36 := Lib.hid (C35.out.below h6)
  have C76 := Lib.hid (C75.out.below h6)
  clear h6
  go_wp2_with fail
  (refine (T5.out _).mono ?_)
  rintro e w7 ⟨rfl, h7⟩
  have B7 := Lib.hid (bt B6.out h7)
  have C37 := Lib.hid (C36.out.below h7)
  have C77 := Lib.hid (C76.out.below h7)
  clear h7
  go_wp2_with (refine wpList_setAll rfl 23 (.tmp 7) (.tmp 73) rfl X7 5 [.bool p.cmd, .int .i64 p.ap, .int .i64 p.fl, .int .i64 p.ct, .string p.da] _ (pkCel p) C77.out rfl (pk_list p) rfl rfl pk_info (by simp [Value.oneCell']) ?_; intro w8 C8 U8 S8; have C38 := Lib.hid (C37.out.but U8.out (by have := HX7.out; have := C32.out.1; omega)); have B8 := Lib.hid (But.under B7.out U8.out (by have := HX7.out; have := B2.out.size; omega)))
  (refine (T6.out _).mono ?_)
  rintro e w9 ⟨rfl, h9⟩
  have B9 := Lib.hid (bt B8.out h9)
  have C39 := Lib.hid (C38.out.below h9)
  have C79 := Lib.hid (C8.out.below h9)
  clear h9
  go_wp2_with (first
    | (refine wpList_new rfl (.alloc 23) rfl (some 14) rfl #[.bool false, .int .i64 0, .int .i64 0, .int .i64 0, .string ⟨#[]⟩] 23 (fun X => .pointer (some ⟨X, 0, none⟩)) 5 (pkCel pk0) (pk_cells pk0) (alloc_pk rfl) ?_; intro XE w10 HXE Sw10 CXE Bw10)
    | (refine wpList_setAll rfl 23 (.tmp 14) (.tmp 80) rfl XE 5 [.bool p.cmd, .int .i64 p.ap, .int .i64 p.fl, .int .i64 p.ct, .string p.da] _ (pkCel p) CXE.out rfl (pk_list p) rfl rfl pk_info (by simp [Value.oneCell']) ?_; intro w11 C11 U11 S11; have C311 := Lib.hid ((C39.out.below Bw10.out).but U11.out (by have := HXE.out; have := C39.out.1; omega)); have C711 := Lib.hid ((C79.out.below Bw10.out).but U11.out (by have := HXE.out; have := C79.out.1; omega)); have B11 := Lib.hid (But.under (bt B9.out Bw10.out) U11.out (by have := HXE.out; have := B9.out.size; omega)); have c0 : w11.cell? ⟨X, 0, none⟩ = some (.bool p.cmd) := C311.out.cell (j := 0) (by omega); have c1 : w11.cell? ⟨X, 1, none⟩ = some (.int .i64 p.ap) := C311.out.cell (j := 1) (by omega); have c2 : w11.cell? ⟨X, 2, none⟩ = some (.int .i64 p.fl) := C311.out.cell (j := 2) (by omega); have c3 : w11.cell? ⟨X, 3, none⟩ = some (.int .i64 p.ct) := C311.out.cell (j := 3) (by omega); have c4 : w11.cell? ⟨X, 4, none⟩ = some (.string p.da) := C311.out.cell (j := 4) (by omega); have a0 : w11.cell? ⟨X7, 0, none⟩ = some (.bool p.cmd) := C711.out.cell (j := 0) (by omega); have a1 : w11.cell? ⟨X7, 1, none⟩ = some (.int .i64 p.ap) := C711.out.cell (j := 1) (by omega); have a2 : w11.cell? ⟨X7, 2, none⟩ = some (.int .i64 p.fl) := C711.out.cell (j := 2) (by omega); have a3 : w11.cell? ⟨X7, 3, none⟩ = some (.int .i64 p.ct) := C711.out.cell (j := 3) (by omega); have a4 : w11.cell? ⟨X7, 4, none⟩ = some (.string p.da) := C711.out.cell (j := 4) (by omega); have b0 : w11.cell? ⟨XE, 0, none⟩ = some (.bool p.cmd) := C11.out.cell (j := 0) (by omega); have b1 : w11.cell? ⟨XE, 1, none⟩ = some (.int .i64 p.ap) := C11.out.cell (j := 1) (by omega); have b2 : w11.cell? ⟨XE, 2, none⟩ = some (.int .i64 p.fl) := C11.out.cell (j := 2) (by omega); have b3 : w11.cell? ⟨XE, 3, none⟩ = some (.int .i64 p.ct) := C11.out.cell (j := 3) (by omega); have b4 : w11.cell? ⟨XE, 4, none⟩ = some (.string p.da) := C11.out.cell (j := 4) (by omega)))
  (refine (T7.out _).mono ?_)
  rintro e w12 ⟨rfl, rfl⟩
  clear c0 c1 c2 c3 c4 a0 a1 a2 a3 a4 b0 b1 b2 b3 b4
  go_wp2_with fail
  (refine (T8.out _).mono ?_)
  rintro e w13 ⟨rfl, h13⟩
  have B13 := Lib.hid (bt B11.out h13)
  clear h13
  go_wp2_with (first
    | (refine wpList_new rfl (.alloc 23) rfl (some 16) rfl #[.bool false, .int .i64 0, .int .i64 0, .int .i64 0, .string ⟨#[]⟩] 23 (fun X => .pointer (some ⟨X, 0, none⟩)) 5 (pkCel pk0) (pk_cells pk0) (alloc_pk rfl) ?_; intro XG w14 HXG Sw14 CXG Bw14)
    | (refine wpList_setAll rfl 23 (.tmp 16) (.tmp 113) rfl XG 5 [.bool pk0.cmd, .int .i64 pk0.ap, .int .i64 pk0.fl, .int .i64 pk0.ct, .string pk0.da] _ (pkCel pk0) CXG.out rfl (pk_list pk0) rfl rfl pk_info (by simp [Value.oneCell']) ?_; intro w15 C15 U15 S15))
  have B15 := Lib.hid (But.under (bt B13.out Bw14.out) U15.out (by have := HXG.out; have := B13.out.size; omega))
  go_ret
  exact ⟨rfl, B15.out⟩
set_option maxRecDepth 100000 in
set_option maxHeartbeats 4000000 in
theorem walk_ok_not (p : Pkt) (hp : PkWf p) (zp : p.da.size ≤ reachBytes) (a : ByteArray) (ha : a.size ≤ maxLen) (za : a.size ≤ reachBytes) (cut : Int) (hc : (Lit.int .i64 cut).wf = true) (w : World) (hl : ¬ 20000 < p.da.size + a.size) (ok : ¬ Pk.Ok p) (q0 : Pkt) (k0 : Nat) (co : Int) (hv : tkV (Pk.take a.data.toList) = .tuple #[pkVal q0, .int .i64 k0, .int .i64 co]) (hr : co = 0 ∧ Pk.take a.data.toList = .ok q0 k0) : Calls Try.prog 7 #[pkVal p, .string a, .int .i64 cut] w fun e w' => e = .returned (.bool true) ∧ Below w.heap.size w w' := by
  have SH := Lib.hid (fun w => shown_any w)
  obtain ⟨m, hm⟩ : ∃ m, p.da.size = m := ⟨_, rfl⟩
  obtain ⟨n, hn⟩ : ∃ n, a.size = n := ⟨_, rfl⟩
  have hml := hp.2.2.2
  have ha' := ha
  unfold maxLen at hml ha'
  unfold reachBytes at zp za
  have hs : m + n ≤ 9223372036854775807 := by omega
  have hmm : m ≤ 9223372036854775807 := by omega
  have hnn : n ≤ 9223372036854775807 := by omega
  obtain ⟨z, hz⟩ : ∃ z, m + n = z := ⟨_, rfl⟩
  have wz : IntKind.i64.wrap ((m : Int) + (n : Int)) = (z : Int) := by rw [IntKind.wrap_i64]; omega
  rw [hm, hn, hz] at hl
  have t1 : decide (20000 < (z : Int)) = false := decide_eq_false (by omega)
  have t1n : decide (20000 < z) = false := decide_eq_false hl
  have T1 := Lib.hid (fun w => ptake_any a (by omega) w)
  have T3 := Lib.hid (fun w => pput_any p hp.2.2.2 w)
  rw [hv] at T1
  obtain ⟨rfl, hk⟩ := hr
  obtain ⟨okq, hk1, hk2⟩ := Pk.take_ok hk
  have qsz : q0.da.size ≤ maxLen := by
    have e1 := congrArg List.length hk2
    rw [Pk.enc_len, List.length_take, ls] at e1
    unfold maxLen
    omega
  have T2 := Lib.hid (fun w => pput_any q0 qsz w)
  rw [if_pos okq] at T2
  obtain ⟨S0, hS0⟩ : ∃ S0, bs (Pk.enc q0) = S0 := ⟨_, rfl⟩
  rw [hS0] at T2
  have hk3 : k0 ≤ n := by rw [ls] at hk1; omega
  have ex0 : a.extract 0 k0 = S0 := by
    rw [← hS0, ← hk2]
    apply ByteArray.ext
    apply Array.toList_inj.1
    simp [bs, ByteArray.data_extract]
  have ex0' : a.extract 0 ((k0 : Int)).toNat = S0 := by rw [Int.toNat_natCast]; exact ex0
  have z0 : (S0.toList == S0.toList) = true := by simp
  have u1 : decide ((n : Int) < (k0 : Int)) = false := decide_eq_false (by omega)
  have u1n : decide (n < k0) = false := decide_eq_false (by omega)
  clear hk hk1 hk2 okq qsz hS0
  rw [if_neg ok] at T3
  have T4 := Lib.hid (fun w => pvalid_any p hp.2.2.2 w)
  rw [show decide (Pk.Ok p) = false from decide_eq_false ok] at T4
  clear ok
  clear hl hz hp hml ha ha' zp za hv
  go_enter Try.func7, Try.ntmps7
  go_wp2_with (refine wpList_new rfl (.box 23 (.tmp 0)) rfl (some 3) rfl #[.bool p.cmd, .int .i64 p.ap, .int .i64 p.fl, .int .i64 p.ct, .string p.da] 23 (fun X => .pointer (some ⟨X, 0, none⟩)) 5 (pkCel p) (pk_cells p) (box_pk rfl rfl) ?_; intro X w0 HX Sw0 CX Bw0)
  (with_reducible refine (SH.out _).mono ?_)
  rintro e w1 ⟨rfl, h1⟩
  have C31 := Lib.hid (CX.out.below h1)
  have cX : w1.cell? ⟨X, 4, none⟩ = some (.string p.da) := C31.out.cell (j := 4) (by omega)
  have B1 := Lib.hid (bt Bw0.out h1)
  clear h1
  go_wp2_with fail
  (with_reducible refine (T1.out _).mono ?_)
  rintro e w2 ⟨rfl, h2⟩
  have B2 := Lib.hid (bt B1.out h2)
  have C32 := Lib.hid (C31.out.below h2)
  clear h2 cX
  go_wp2_with (first
    | (refine wpList_new rfl (.alloc 23) rfl (some 7) rfl #[.bool false, .int .i64 0, .int .i64 0, .int .i64 0, .string ⟨#[]⟩] 23 (fun X => .pointer (some ⟨X, 0, none⟩)) 5 (pkCel pk0) (pk_cells pk0) (alloc_pk rfl) ?_; intro X7 w3 HX7 Sw3 CX7 Bw3)
    | (refine wpList_setAll rfl 23 (.tmp 7) (.tmp 31) rfl X7 5 [.bool q0.cmd, .int .i64 q0.ap, .int .i64 q0.fl, .int .i64 q0.ct, .string q0.da] _ (pkCel q0) CX7.out rfl (pk_list q0) rfl rfl pk_info (by simp [Value.oneCell']) ?_; intro w4 C4 U4 S4; have C34 := Lib.hid ((C32.out.below Bw3.out).but U4.out (by have := HX7.out; have := C32.out.1; omega)))
    | (refine wpList_getAll rfl 23 (.tmp 7) rfl X7 5 [.bool q0.cmd, .int .i64 q0.ap, .int .i64 q0.fl, .int .i64 q0.ct, .string q0.da] _ _ C4.out rfl (pk_list q0) rfl Try.underlying23 rfl pk_info ?_))
  have B4 := Lib.hid (But.under (bt B2.out Bw3.out) U4.out (by have := HX7.out; have := B2.out.size; omega))
  (refine (T2.out _).mono ?_)
  rintro e w5 ⟨rfl, h5⟩
  have B5 := Lib.hid (bt B4.out h5)
  have C35 := Lib.hid (C34.out.below h5)
  have C75 := Lib.hid (C4.out.below h5)
  clear h5
  go_wp2_with (refine wpList_getAll rfl 23 (.tmp 3) rfl X 5 [.bool p.cmd, .int .i64 p.ap, .int .i64 p.fl, .int .i64 p.ct, .string p.da] _ _ C35.out rfl (pk_list p) rfl Try.underlying23 rfl pk_info ?_)
  (refine (T3.out _).mono ?_)
  rintro e w6 ⟨rfl, h6⟩
  have B6 := Lib.hid (bt B5.out h6)
  have C36 := Lib.hid (C35.out.below h6)
  have C76 := Lib.hid (C75.out.below h6)
  clear h6
  have c0 : w6.cell? ⟨X, 0, none⟩ = some (.bool p.cmd) := C36.out.cell (j := 0) (by omega)
  have c1 : w6.cell? ⟨X, 1, none⟩ = some (.int .i64 p.ap) := C36.out.cell (j := 1) (by omega)
  have c2 : w6.cell? ⟨X, 2, none⟩ = some (.int .i64 p.fl) := C36.out.cell (j := 2) (by omega)
  have c3 : w6.cell? ⟨X, 3, none⟩ = some (.int .i64 p.ct) := C36.out.cell (j := 3) (by omega)
  have c4 : w6.cell? ⟨X, 4, none⟩ = some (.string p.da) := C36.out.cell (j := 4) (by omega)
  go_wp2_with fail
  (refine (T4.out _).mono ?_)
  rintro e w7 ⟨rfl, h7⟩
  have B7 := Lib.hid (bt B6.out h7)
  clear h7
  go_wp2_with fail
  go_ret
  exact ⟨rfl, B7.out⟩
set_option maxRecDepth 100000 in
set_option maxHeartbeats 4000000 in
theorem walk_no_put (p : Pkt) (hp : PkWf p) (zp : p.da.size ≤ reachBytes) (a : ByteArray) (ha : a.size ≤ maxLen) (za : a.size ≤ reachBytes) (cut : Int) (hc : (Lit.int .i64 cut).wf = true) (w : World) (hl : ¬ 20000 < p.da.size + a.size) (ok : Pk.Ok p) (q0 : Pkt) (k0 : Nat) (co : Int) (hv : tkV (Pk.take a.data.toList) = .tuple #[pkVal q0, .int .i64 k0, .int .i64 co]) (hr : co ≠ 0) : Calls Try.prog 7 #[pkVal p, .string a, .int .i64 cut] w fun e w' => e = .returned (.bool true) ∧ Below w.heap.size w w' := by
  have SH := Lib.hid (fun w => shown_any w)
  obtain ⟨m, hm⟩ : ∃ m, p.da.size = m := ⟨_, rfl⟩
  obtain ⟨n, hn⟩ : ∃ n, a.size = n := ⟨_, rfl⟩
  have hml := hp.2.2.2
  have ha' := ha
  unfold maxLen at hml ha'
  unfold reachBytes at zp za
  have hs : m + n ≤ 9223372036854775807 := by omega
  have hmm : m ≤ 9223372036854775807 := by omega
  have hnn : n ≤ 9223372036854775807 := by omega
  obtain ⟨z, hz⟩ : ∃ z, m + n = z := ⟨_, rfl⟩
  have wz : IntKind.i64.wrap ((m : Int) + (n : Int)) = (z : Int) := by rw [IntKind.wrap_i64]; omega
  rw [hm, hn, hz] at hl
  have t1 : decide (20000 < (z : Int)) = false := decide_eq_false (by omega)
  have t1n : decide (20000 < z) = false := decide_eq_false hl
  have T1 := Lib.hid (fun w => ptake_any a (by omega) w)
  have T3 := Lib.hid (fun w => pput_any p hp.2.2.2 w)
  rw [hv] at T1
  have d0 : (co == 0) = false := by simpa using hr
  have d0' : (co != 0) = true := by simpa using hr
  rw [if_pos ok] at T3
  obtain ⟨N, hN⟩ : ∃ N, (Pk.enc p).length = N := ⟨_, rfl⟩
  have hN6 := Pk.enc_len p
  rw [hN, hm] at hN6
  obtain ⟨S, hS⟩ : ∃ S, bs (Pk.enc p) = S := ⟨_, rfl⟩
  have Ssz : S.size = N := by rw [← hS, bs_size, hN]
  have T5 := Lib.hid (fun w => pget_any S (by omega) w)
  have T6 := Lib.hid (fun w => ptake_any (S ++ a) (by rw [ByteArray.size_append]; omega) w)
  rw [← hS, bs_list, getV_enc ok, hS] at T5
  rw [show (S ++ a).data.toList = Pk.enc p ++ a.data.toList by rw [← hS]; exact bs_add _ _, Pk.take_enc ok, hN] at T6
  simp only [tkV] at T6
  have T7 := Lib.hid (fun w => pick_any cut hc N (by omega) (by omega) w)
  obtain ⟨r, hrr⟩ : ∃ r, (cut % (N : Int)).toNat = r := ⟨_, rfl⟩
  have hrN : r < N := by
    have e0 := Int.emod_nonneg cut (show (N : Int) ≠ 0 by omega)
    have e1 := Int.emod_lt_of_pos cut (show 0 < (N : Int) by omega)
    omega
  rw [hrr] at T7
  obtain ⟨S1, hS1⟩ : ∃ S1, S.extract 0 r = S1 := ⟨_, rfl⟩
  have T8 := Lib.hid (fun w => ptake_any S1 (by rw [← hS1, ByteArray.size_extract]; omega) w)
  rw [show S1.data.toList = (Pk.enc p).take r by rw [← hS1, ← hS]; exact bs_ext _ _, Pk.take_cut ok r (by omega)] at T8
  simp only [tkV] at T8
  have hS1' : S.extract 0 ((r : Int)).toNat = S1 := by rw [Int.toNat_natCast]; exact hS1
  have hNn : N + n ≤ 9223372036854775807 := by omega
  rw [hS] at T3
  have z4 : (p.da.toList == p.da.toList) = true := by simp
  clear hS hN hrr ok hN6
  clear hl hz hp hml ha ha' zp za hv
  go_enter Try.func7, Try.ntmps7
  go_wp2_with (refine wpList_new rfl (.box 23 (.tmp 0)) rfl (some 3) rfl #[.bool p.cmd, .int .i64 p.ap, .int .i64 p.fl, .int .i64 p.ct, .string p.da] 23 (fun X => .pointer (some ⟨X, 0, none⟩)) 5 (pkCel p) (pk_cells p) (box_pk rfl rfl) ?_; intro X w0 HX Sw0 CX Bw0)
  (with_reducible refine (SH.out _).mono ?_)
  rintro e w1 ⟨rfl, h1⟩
  have C31 := Lib.hid (CX.out.below h1)
  have cX : w1.cell? ⟨X, 4, none⟩ = some (.string p.da) := C31.out.cell (j := 4) (by omega)
  have B1 := Lib.hid (bt Bw0.out h1)
  clear h1
  go_wp2_with fail
  (with_reducible refine (T1.out _).mono ?_)
  rintro e w2 ⟨rfl, h2⟩
  have B2 := Lib.hid (bt B1.out h2)
  have C32 := Lib.hid (C31.out.below h2)
  clear h2 cX
  go_wp2_with (first
    | (refine wpList_new rfl (.alloc 23) rfl (some 7) rfl #[.bool false, .int .i64 0, .int .i64 0, .int .i64 0, .string ⟨#[]⟩] 23 (fun X => .pointer (some ⟨X, 0, none⟩)) 5 (pkCel pk0) (pk_cells pk0) (alloc_pk rfl) ?_; intro X7 w3 HX7 Sw3 CX7 Bw3)
    | (refine wpList_setAll rfl 23 (.tmp 7) (.tmp 31) rfl X7 5 [.bool q0.cmd, .int .i64 q0.ap, .int .i64 q0.fl, .int .i64 q0.ct, .string q0.da] _ (pkCel q0) CX7.out rfl (pk_list q0) rfl rfl pk_info (by simp [Value.oneCell']) ?_; intro w4 C4 U4 S4; have C34 := Lib.hid ((C32.out.below Bw3.out).but U4.out (by have := HX7.out; have := C32.out.1; omega)))
    | (refine wpList_getAll rfl 23 (.tmp 3) rfl X 5 [.bool p.cmd, .int .i64 p.ap, .int .i64 p.fl, .int .i64 p.ct, .string p.da] _ _ C34.out rfl (pk_list p) rfl Try.underlying23 rfl pk_info ?_))
  have B4 := Lib.hid (But.under (bt B2.out Bw3.out) U4.out (by have := HX7.out; have := B2.out.size; omega))
  have B5 := B4
  have C35 := C34
  have C75 := C4
  (refine (T3.out _).mono ?_)
  rintro e w6 ⟨rfl, h6⟩
  have B6 := Lib.hid (bt B5.out h6)
  have C36 := Lib.hid (C35.out.below h6)
  have C76 := Lib.hid (C75.out.below h6)
  clear h6
  go_wp2_with fail
  (refine (T5.out _).mono ?_)
  rintro e w7 ⟨rfl, h7⟩
  have B7 := Lib.hid (bt B6.out h7)
  have C37 := Lib.hid (C36.out.below h7)
  have C77 := Lib.hid (C76.out.below h7)
  clear h7
  go_wp2_with (refine wpList_setAll rfl 23 (.tmp 7) (.tmp 73) rfl X7 5 [.bool p.cmd, .int .i64 p.ap, .int .i64 p.fl, .int .i64 p.ct, .string p.da] _ (pkCel p) C77.out rfl (pk_list p) rfl rfl pk_info (by simp [Value.oneCell']) ?_; intro w8 C8 U8 S8; have C38 := Lib.hid (C37.out.but U8.out (by have := HX7.out; have := C32.out.1; omega)); have B8 := Lib.hid (But.under B7.out U8.out (by have := HX7.out; have := B2.out.size; omega)))
  (refine (T6.out _).mono ?_)
  rintro e w9 ⟨rfl, h9⟩
  have B9 := Lib.hid (bt B8.out h9)
  have C39 := Lib.hid (C38.out.below h9)
  have C79 := Lib.hid (C8.out.below h9)
  clear h9
  go_wp2_with (first
    | (refine wpList_new rfl (.alloc 23) rfl (some 14) rfl #[.bool false, .int .i64 0, .int .i64 0, .int .i64 0, .string ⟨#[]⟩] 23 (fun X => .pointer (some ⟨X, 0, none⟩)) 5 (pkCel pk0) (pk_cells pk0) (alloc_pk rfl) ?_; intro XE w10 HXE Sw10 CXE Bw10)
    | (refine wpList_setAll rfl 23 (.tmp 14) (.tmp 80) rfl XE 5 [.bool p.cmd, .int .i64 p.ap, .int .i64 p.fl, .int .i64 p.ct, .string p.da] _ (pkCel p) CXE.out rfl (pk_list p) rfl rfl pk_info (by simp [Value.oneCell']) ?_; intro w11 C11 U11 S11; have C311 := Lib.hid ((C39.out.below Bw10.out).but U11.out (by have := HXE.out; have := C39.out.1; omega)); have C711 := Lib.hid ((C79.out.below Bw10.out).but U11.out (by have := HXE.out; have := C79.out.1; omega)); have B11 := Lib.hid (But.under (bt B9.out Bw10.out) U11.out (by have := HXE.out; have := B9.out.size; omega)); have c0 : w11.cell? ⟨X, 0, none⟩ = some (.bool p.cmd) := C311.out.cell (j := 0) (by omega); have c1 : w11.cell? ⟨X, 1, none⟩ = some (.int .i64 p.ap) := C311.out.cell (j := 1) (by omega); have c2 : w11.cell? ⟨X, 2, none⟩ = some (.int .i64 p.fl) := C311.out.cell (j := 2) (by omega); have c3 : w11.cell? ⟨X, 3, none⟩ = some (.int .i64 p.ct) := C311.out.cell (j := 3) (by omega); have c4 : w11.cell? ⟨X, 4, none⟩ = some (.string p.da) := C311.out.cell (j := 4) (by omega); have a0 : w11.cell? ⟨X7, 0, none⟩ = some (.bool p.cmd) := C711.out.cell (j := 0) (by omega); have a1 : w11.cell? ⟨X7, 1, none⟩ = some (.int .i64 p.ap) := C711.out.cell (j := 1) (by omega); have a2 : w11.cell? ⟨X7, 2, none⟩ = some (.int .i64 p.fl) := C711.out.cell (j := 2) (by omega); have a3 : w11.cell? ⟨X7, 3, none⟩ = some (.int .i64 p.ct) := C711.out.cell (j := 3) (by omega); have a4 : w11.cell? ⟨X7, 4, none⟩ = some (.string p.da) := C711.out.cell (j := 4) (by omega); have b0 : w11.cell? ⟨XE, 0, none⟩ = some (.bool p.cmd) := C11.out.cell (j := 0) (by omega); have b1 : w11.cell? ⟨XE, 1, none⟩ = some (.int .i64 p.ap) := C11.out.cell (j := 1) (by omega); have b2 : w11.cell? ⟨XE, 2, none⟩ = some (.int .i64 p.fl) := C11.out.cell (j := 2) (by omega); have b3 : w11.cell? ⟨XE, 3, none⟩ = some (.int .i64 p.ct) := C11.out.cell (j := 3) (by omega); have b4 : w11.cell? ⟨XE, 4, none⟩ = some (.string p.da) := C11.out.cell (j := 4) (by omega)))
  (refine (T7.out _).mono ?_)
  rintro e w12 ⟨rfl, rfl⟩
  clear c0 c1 c2 c3 c4 a0 a1 a2 a3 a4 b0 b1 b2 b3 b4
  go_wp2_with fail
  (refine (T8.out _).mono ?_)
  rintro e w13 ⟨rfl, h13⟩
  have B13 := Lib.hid (bt B11.out h13)
  clear h13
  go_wp2_with (first
    | (refine wpList_new rfl (.alloc 23) rfl (some 16) rfl #[.bool false, .int .i64 0, .int .i64 0, .int .i64 0, .string ⟨#[]⟩] 23 (fun X => .pointer (some ⟨X, 0, none⟩)) 5 (pkCel pk0) (pk_cells pk0) (alloc_pk rfl) ?_; intro XG w14 HXG Sw14 CXG Bw14)
    | (refine wpList_setAll rfl 23 (.tmp 16) (.tmp 113) rfl XG 5 [.bool pk0.cmd, .int .i64 pk0.ap, .int .i64 pk0.fl, .int .i64 pk0.ct, .string pk0.da] _ (pkCel pk0) CXG.out rfl (pk_list pk0) rfl rfl pk_info (by simp [Value.oneCell']) ?_; intro w15 C15 U15 S15))
  have B15 := Lib.hid (But.under (bt B13.out Bw14.out) U15.out (by have := HXG.out; have := B13.out.size; omega))
  go_ret
  exact ⟨rfl, B15.out⟩
set_option maxRecDepth 100000 in
set_option maxHeartbeats 4000000 in
theorem walk_no_not (p : Pkt) (hp : PkWf p) (zp : p.da.size ≤ reachBytes) (a : ByteArray) (ha : a.size ≤ maxLen) (za : a.size ≤ reachBytes) (cut : Int) (hc : (Lit.int .i64 cut).wf = true) (w : World) (hl : ¬ 20000 < p.da.size + a.size) (ok : ¬ Pk.Ok p) (q0 : Pkt) (k0 : Nat) (co : Int) (hv : tkV (Pk.take a.data.toList) = .tuple #[pkVal q0, .int .i64 k0, .int .i64 co]) (hr : co ≠ 0) : Calls Try.prog 7 #[pkVal p, .string a, .int .i64 cut] w fun e w' => e = .returned (.bool true) ∧ Below w.heap.size w w' := by
  have SH := Lib.hid (fun w => shown_any w)
  obtain ⟨m, hm⟩ : ∃ m, p.da.size = m := ⟨_, rfl⟩
  obtain ⟨n, hn⟩ : ∃ n, a.size = n := ⟨_, rfl⟩
  have hml := hp.2.2.2
  have ha' := ha
  unfold maxLen at hml ha'
  unfold reachBytes at zp za
  have hs : m + n ≤ 9223372036854775807 := by omega
  have hmm : m ≤ 9223372036854775807 := by omega
  have hnn : n ≤ 9223372036854775807 := by omega
  obtain ⟨z, hz⟩ : ∃ z, m + n = z := ⟨_, rfl⟩
  have wz : IntKind.i64.wrap ((m : Int) + (n : Int)) = (z : Int) := by rw [IntKind.wrap_i64]; omega
  rw [hm, hn, hz] at hl
  have t1 : decide (20000 < (z : Int)) = false := decide_eq_false (by omega)
  have t1n : decide (20000 < z) = false := decide_eq_false hl
  have T1 := Lib.hid (fun w => ptake_any a (by omega) w)
  have T3 := Lib.hid (fun w => pput_any p hp.2.2.2 w)
  rw [hv] at T1
  have d0 : (co == 0) = false := by simpa using hr
  have d0' : (co != 0) = true := by simpa using hr
  rw [if_neg ok] at T3
  have T4 := Lib.hid (fun w => pvalid_any p hp.2.2.2 w)
  rw [show decide (Pk.Ok p) = false from decide_eq_false ok] at T4
  clear ok
  clear hl hz hp hml ha ha' zp za hv
  go_enter Try.func7, Try.ntmps7
  go_wp2_with (refine wpList_new rfl (.box 23 (.tmp 0)) rfl (some 3) rfl #[.bool p.cmd, .int .i64 p.ap, .int .i64 p.fl, .int .i64 p.ct, .string p.da] 23 (fun X => .pointer (some ⟨X, 0, none⟩)) 5 (pkCel p) (pk_cells p) (box_pk rfl rfl) ?_; intro X w0 HX Sw0 CX Bw0)
  (with_reducible refine (SH.out _).mono ?_)
  rintro e w1 ⟨rfl, h1⟩
  have C31 := Lib.hid (CX.out.below h1)
  have cX : w1.cell? ⟨X, 4, none⟩ = some (.string p.da) := C31.out.cell (j := 4) (by omega)
  have B1 := Lib.hid (bt Bw0.out h1)
  clear h1
  go_wp2_with fail
  (with_reducible refine (T1.out _).mono ?_)
  rintro e w2 ⟨rfl, h2⟩
  have B2 := Lib.hid (bt B1.out h2)
  have C32 := Lib.hid (C31.out.below h2)
  clear h2 cX
  go_wp2_with (first
    | (refine wpList_new rfl (.alloc 23) rfl (some 7) rfl #[.bool false, .int .i64 0, .int .i64 0, .int .i64 0, .string ⟨#[]⟩] 23 (fun X => .pointer (some ⟨X, 0, none⟩)) 5 (pkCel pk0) (pk_cells pk0) (alloc_pk rfl) ?_; intro X7 w3 HX7 Sw3 CX7 Bw3)
    | (refine wpList_setAll rfl 23 (.tmp 7) (.tmp 31) rfl X7 5 [.bool q0.cmd, .int .i64 q0.ap, .int .i64 q0.fl, .int .i64 q0.ct, .string q0.da] _ (pkCel q0) CX7.out rfl (pk_list q0) rfl rfl pk_info (by simp [Value.oneCell']) ?_; intro w4 C4 U4 S4; have C34 := Lib.hid ((C32.out.below Bw3.out).but U4.out (by have := HX7.out; have := C32.out.1; omega)))
    | (refine wpList_getAll rfl 23 (.tmp 3) rfl X 5 [.bool p.cmd, .int .i64 p.ap, .int .i64 p.fl, .int .i64 p.ct, .string p.da] _ _ C34.out rfl (pk_list p) rfl Try.underlying23 rfl pk_info ?_))
  have B4 := Lib.hid (But.under (bt B2.out Bw3.out) U4.out (by have := HX7.out; have := B2.out.size; omega))
  have B5 := B4
  have C35 := C34
  have C75 := C4
  (refine (T3.out _).mono ?_)
  rintro e w6 ⟨rfl, h6⟩
  have B6 := Lib.hid (bt B5.out h6)
  have C36 := Lib.hid (C35.out.below h6)
  have C76 := Lib.hid (C75.out.below h6)
  clear h6
  have c0 : w6.cell? ⟨X, 0, none⟩ = some (.bool p.cmd) := C36.out.cell (j := 0) (by omega)
  have c1 : w6.cell? ⟨X, 1, none⟩ = some (.int .i64 p.ap) := C36.out.cell (j := 1) (by omega)
  have c2 : w6.cell? ⟨X, 2, none⟩ = some (.int .i64 p.fl) := C36.out.cell (j := 2) (by omega)
  have c3 : w6.cell? ⟨X, 3, none⟩ = some (.int .i64 p.ct) := C36.out.cell (j := 3) (by omega)
  have c4 : w6.cell? ⟨X, 4, none⟩ = some (.string p.da) := C36.out.cell (j := 4) (by omega)
  go_wp2_with fail
  (refine (T4.out _).mono ?_)
  rintro e w7 ⟨rfl, h7⟩
  have B7 := Lib.hid (bt B6.out h7)
  clear h7
  go_wp2_with fail
  go_ret
  exact ⟨rfl, B7.out⟩
theorem walk (p : Pkt) (hp : PkWf p) (zp : p.da.size ≤ reachBytes) (a : ByteArray) (ha : a.size ≤ maxLen) (za : a.size ≤ reachBytes) (cut : Int) (hc : (Lit.int .i64 cut).wf = true) (w : World) : Calls Try.prog 7 #[pkVal p, .string a, .int .i64 cut] w fun e w' => e = .returned (.bool true) ∧ Below w.heap.size w w' := by
  by_cases hl : 20000 < p.da.size + a.size
  · exact walk_long p hp zp a ha za cut hc w hl
  · obtain ⟨q0, k0, co, hv, hr⟩ := tkV_form (Pk.take a.data.toList)
    by_cases ok : Pk.Ok p
    · rcases hr with ⟨h0, h1⟩ | ⟨h0, _⟩
      · exact walk_ok_put p hp zp a ha za cut hc w hl ok q0 k0 co hv ⟨h0, h1⟩
      · exact walk_no_put p hp zp a ha za cut hc w hl ok q0 k0 co hv h0
    · rcases hr with ⟨h0, h1⟩ | ⟨h0, _⟩
      · exact walk_ok_not p hp zp a ha za cut hc w hl ok q0 k0 co hv ⟨h0, h1⟩
      · exact walk_no_not p hp zp a ha za cut hc w hl ok q0 k0 co hv h0

set_option maxRecDepth 100000 in
theorem lifted (os : Os) (started : os.Started) (H : Type) (enc : TypeId × Value → H) :
    ReturnsInHanded {} Try.checked os 7 .any (Rows.packetBackSpec.pre6 enc Try.prog Try.f7 Rows.packetBackRow.domain false) (Rows.packetBackSpec.post enc Try.prog Try.f7 false true false false) := by
  refine returnsInHanded_of_change_sized (C := Try.checked) own started (by kernel_rfl) Try.func7
    (ChangeSpec.witness6 (enc := enc) (C := Try.checked) false ⟨#[], #[.agg #[.bool false, .int .i64 0, .int .i64 0, .int .i64 0, .string { data := #[] }], .string { data := #[] }, .int .i64 0], []⟩ 8 (by kernel_rfl) (by kernel_rfl) (by kernel_rfl) (by kernel_rfl)) ?_
  intro W base args ds gs before hval0 hW _ hz0 _
  have hval : ∀ (j : Nat) t v, Try.f7.params[j]? = some t → args[j]? = some v → Value.okWide Try.prog W .any base t v := hval0
  have hW' := hW
  obtain ⟨p, q, hA0, hV, rfl, hfz, hnd⟩ := hW
  have hA : DataW.TrodAll enc Try.prog W 0 (fun _ => true) true Try.f7.params.toList args.toList ds p := hA0
  rw [Try.params7] at hA hval
  obtain ⟨v0, vs0, d0, ds0, p0, q0, hargs, rfl, rfl, h0, r0⟩ := trodAll_cons hA
  obtain ⟨v1, vs1, d1, ds1, p1, q1, rfl, rfl, rfl, h1, r1⟩ := trodAll_cons r0
  obtain ⟨v2, vs2, d2, ds2, p2, q2, rfl, rfl, rfl, h2, r2⟩ := trodAll_cons r1
  obtain ⟨rfl, rfl, rfl⟩ := trodAll_nil r2
  obtain rfl : args = #[v0, v1, v2] := by cases args; simp_all
  obtain ⟨rfl, rfl⟩ := trodVars_none hV
  obtain ⟨a0, rfl, w0, shut0⟩ := packet_arg (hval 0 23 v0 rfl rfl) h0
  obtain ⟨a1, rfl, rfl, rfl, w1⟩ := ChangeMaps.open_string Try.underlying9 (hval 1 9 v1 rfl rfl) h1
  obtain ⟨a2, rfl, rfl, rfl, w2⟩ := open_int Try.underlying3 (hval 2 3 v2 rfl rfl) h2
  have z0 : a0.da.size ≤ reachBytes := by simpa using List.all_eq_true.1 hz0 _ (DataW.weights_mem_each (j := 0) (t := 23) (by rw [Try.params7]; rfl) rfl _ (packet_weight h0))
  have z1 : a1.size ≤ reachBytes := by simpa using sized_string hz0 (j := 1) (t := 9) (by rw [Try.params7]; rfl) rfl
  clear hA0 hval0
  simp only [List.append_nil] at hW'
  refine (walk a0 w0 z0 a1 w1 z1 a2 w2 W).mono fun e W' ⟨he, hg⟩ => ?_
  subst he
  exact ⟨_, rfl, post_of_below (pa := (p0 ++ ([] ++ ([] ++ [])))) (pv := []) hW' (fun _ _ _ => trodAll_cons_mk (shut_bool Try.underlying4 _) trodAll_mk0) (fun sp hsp => (trodAll_cons_mk (shut0 W' hg sp (fun q hq => hsp q (by simp [hq]))) (trodAll_cons_mk (ChangeMaps.shut_string Try.underlying9 w1) (trodAll_cons_mk (shut_int Try.underlying3 w2) trodAll_mk0)))) (fun _ _ => rfl) (by simp)
    hg (ok_one (by kernel_rfl) rfl (okWide_bool_mk Try.underlying4 _))⟩

theorem proved : Rows.PacketBackSaid :=
  OpenClaim.holds_of_wide 7 Try.f7 rfl rfl rfl rfl rfl rfl rfl ⟨rfl, rfl, rfl, rfl, rfl⟩ rfl rfl rfl rfl rfl (by kernel_rfl) Try.func7 (by kernel_rfl)
    (of_decide_eq_true (by kernel_rfl)) (by unfold Func.isWrapper; first | (rw [if_pos (by decide +kernel)]; kernel_rfl) | (rw [if_neg (by decide +kernel)]; exact ⟨rfl, rfl⟩))
    (fun os started H enc _ => lifted os started H enc)
#print axioms proved
end packetBack
end Go.Proofs.Ytphkaambodecdaa
