/- Layer 9: the reference's Code and Put. -/
import Derived.Test.YtphkaambodecdaaPkRef
namespace Go.Proofs.Ytphkaambodecdaa
open Go.RowKit
set_option linter.unusedVariables false

theorem enc_str (p : Pkt) : ((bs (Pk.hd (Pk.fst p)) ++ bs (Pk.hd (Pk.snd p))) ++ bs (Pk.hd (p.da.size - 1))) ++ p.da = bs (Pk.enc p) := by
  conv => lhs; rhs; rw [← bs_self p.da]
  rw [bs_app, bs_app, bs_app]
  unfold Pk.enc Pk.six
  rw [List.append_assoc, List.append_assoc]
theorem hd_size (n : Nat) : (bs (Pk.hd n)).size = 2 := by rw [bs_size, Pk.hd_len]
set_option maxRecDepth 100000 in
set_option maxHeartbeats 1000000 in
theorem rcode_any (p : Pkt) (h : Pk.Ok p) (w : World) : Calls Try.prog 33 #[pkVal p] w fun e w' => e = .returned (.string (bs (Pk.enc p))) ∧ Below w.heap.size w w' := by
  have C := pk_new p w
  have B := Lib.hid (ba (Below.refl w.heap.size w) (.cells #[.bool p.cmd, .int .i64 p.ap, .int .i64 p.fl, .int .i64 p.ct, .string p.da] 23))
  have f1 := Pk.fst_lt h
  have s1 := Pk.snd_lt h
  have ES := enc_str p
  obtain ⟨cmd, ap, fl, ct, da⟩ := p
  obtain ⟨⟨a0, a1⟩, ⟨b0, b1⟩, ⟨d0, d1⟩, g0, g1⟩ := h
  simp only at a0 a1 b0 b1 d0 d1 g0 g1 ES
  unfold pkVal
  simp only
  obtain ⟨A, rfl⟩ : ∃ A : Nat, ap = (A : Int) := ⟨ap.toNat, by omega⟩
  obtain ⟨F, rfl⟩ : ∃ F : Nat, fl = (F : Int) := ⟨fl.toNat, by omega⟩
  obtain ⟨T, rfl⟩ : ∃ T : Nat, ct = (T : Int) := ⟨ct.toNat, by omega⟩
  obtain ⟨w1, hw1⟩ : ∃ w1, w.alloc (.cells #[.bool cmd, .int .i64 (A : Nat), .int .i64 (F : Nat), .int .i64 (T : Nat), .string da] 23) = w1 := ⟨_, rfl⟩
  obtain ⟨X, hX⟩ : ∃ X, w.heap.size = X := ⟨_, rfl⟩
  simp only at C B
  rw [hw1, hX] at C
  have c0 : w1.cell? ⟨X, 0, none⟩ = some (.bool cmd) := C.cell (j := 0) (by omega)
  have c1 : w1.cell? ⟨X, 1, none⟩ = some (.int .i64 (A : Nat)) := C.cell (j := 1) (by omega)
  have c2 : w1.cell? ⟨X, 2, none⟩ = some (.int .i64 (F : Nat)) := C.cell (j := 2) (by omega)
  have c3 : w1.cell? ⟨X, 3, none⟩ = some (.int .i64 (T : Nat)) := C.cell (j := 3) (by omega)
  have c4 : w1.cell? ⟨X, 4, none⟩ = some (.string da) := C.cell (j := 4) (by omega)
  rw [hw1] at B
  have lX := C.lt
  have HW := Lib.hid hw1
  have HX := Lib.hid hX
  clear C hw1
  obtain ⟨D, hD⟩ : ∃ D, da.size = D := ⟨_, rfl⟩
  obtain ⟨fm, hfm⟩ : ∃ x, F * 16384 = x := ⟨_, rfl⟩
  obtain ⟨n1, hn1⟩ : ∃ n1, A + (if cmd = true then 4096 else 0) = n1 := ⟨_, rfl⟩
  obtain ⟨n2, hn2⟩ : ∃ n2, fm + T = n2 := ⟨_, rfl⟩
  obtain ⟨n3, hn3⟩ : ∃ n3, n3 + 1 = D := ⟨D - 1, by omega⟩
  have e1 : Pk.fst ⟨cmd, (A : Int), (F : Int), (T : Int), da⟩ = n1 := by rw [← hn1]; unfold Pk.fst; simp
  have e2 : Pk.snd ⟨cmd, (A : Int), (F : Int), (T : Int), da⟩ = n2 := by rw [← hn2, ← hfm]; unfold Pk.snd; simp
  rw [e1, e2, hD, show D - 1 = n3 by omega] at ES
  rw [e1] at f1
  rw [e2] at s1
  have T1 := Lib.hid (fun w => rtwo_any n1 (by omega) w)
  have T2 := Lib.hid (fun w => rtwo_any n2 (by omega) w)
  have T3 := Lib.hid (fun w => rtwo_any n3 (by omega) w)
  have z1 := Lib.hid (hd_size n1)
  have z2 := Lib.hid (hd_size n2)
  have z3 := Lib.hid (hd_size n3)
  obtain ⟨S1, hS1⟩ : ∃ S, bs (Pk.hd n1) = S := ⟨_, rfl⟩
  obtain ⟨S2, hS2⟩ : ∃ S, bs (Pk.hd n2) = S := ⟨_, rfl⟩
  obtain ⟨S3, hS3⟩ : ∃ S, bs (Pk.hd n3) = S := ⟨_, rfl⟩
  rw [hS1] at T1 z1
  rw [hS2] at T2 z2
  rw [hS3] at T3 z3
  rw [hS1, hS2, hS3] at ES
  obtain ⟨S12, hS12⟩ : ∃ S, S1 ++ S2 = S := ⟨_, rfl⟩
  rw [hS12] at ES
  obtain ⟨S123, hS123⟩ : ∃ S, S12 ++ S3 = S := ⟨_, rfl⟩
  rw [hS123] at ES
  have z12 := Lib.hid (show S12.size = 4 by rw [← hS12, ByteArray.size_append, z1.out, z2.out])
  have z123 := Lib.hid (show S123.size = 6 by rw [← hS123, ByteArray.size_append, z12.out, z3.out])
  obtain ⟨R, hR⟩ : ∃ R, bs (Pk.enc ⟨cmd, (A : Int), (F : Int), (T : Int), da⟩) = R := ⟨_, rfl⟩
  rw [hR] at ES ⊢
  have Q := Lib.hid (And.intro hS12 (And.intro hS123 (And.intro ES (And.intro hfm (And.intro hn2 (And.intro hD hn3))))))
  have CC := Lib.hid (And.intro c2 (And.intro c3 c4))
  clear hS1 hS2 hS3 hS12 hS123 hR ES hfm hn2 hn3 e1 e2 c2 c3 c4 s1 hD hX
  cases cmd with
  | true =>
    have k1 : (A : Int) + 4096 = (n1 : Int) := by rw [if_pos rfl] at hn1; omega
    clear hn1
    go_enter Try.func33, Try.ntmps33
    go_upto_region 4 with (simp only [HW.out, HX.out])
    refine cdRegion X n1 F fm T n2 D n3 da S1 S2 S12 S3 S123 R Q.out.2.2.2.1 (by omega) (by omega) Q.out.2.2.2.2.1 Q.out.2.2.2.2.2.1 Q.out.2.2.2.2.2.2 (by have := Q.out.2.2.2.2.2.1; omega) lX T1.out T2.out T3.out z1.out z2.out z3.out Q.out.1 z12.out Q.out.2.1 z123.out Q.out.2.2.1 CC.out.1 CC.out.2.1 CC.out.2.2 (by kernel_rfl) rfl rfl rfl rfl rfl rfl rfl rfl rfl rfl rfl rfl rfl rfl rfl rfl rfl rfl rfl rfl rfl rfl ?_
    intro w2 h2
    simp only [Act.put, List.setIfInBounds_toArray, List.set_cons_succ, List.set_cons_zero]
    have B2 := Lib.hid (bt B.out h2)
    clear h2
    go_wp2_with fail
    go_ret
    exact ⟨rfl, by have := B2.out; rw [HX.out] at this; exact this⟩
  | false =>
    obtain rfl : A = n1 := by rw [if_neg (by simp)] at hn1; omega
    clear hn1
    go_enter Try.func33, Try.ntmps33
    go_upto_region 4 with (simp only [HW.out, HX.out])
    refine cdRegion X A F fm T n2 D n3 da S1 S2 S12 S3 S123 R Q.out.2.2.2.1 (by omega) (by omega) Q.out.2.2.2.2.1 Q.out.2.2.2.2.2.1 Q.out.2.2.2.2.2.2 (by have := Q.out.2.2.2.2.2.1; omega) lX T1.out T2.out T3.out z1.out z2.out z3.out Q.out.1 z12.out Q.out.2.1 z123.out Q.out.2.2.1 CC.out.1 CC.out.2.1 CC.out.2.2 (by kernel_rfl) rfl rfl rfl rfl rfl rfl rfl rfl rfl rfl rfl rfl rfl rfl rfl rfl rfl rfl rfl rfl rfl rfl ?_
    intro w2 h2
    simp only [Act.put, List.setIfInBounds_toArray, List.set_cons_succ, List.set_cons_zero]
    have B2 := Lib.hid (bt B.out h2)
    clear h2
    go_wp2_with fail
    go_ret
    exact ⟨rfl, by have := B2.out; rw [HX.out] at this; exact this⟩
set_option maxRecDepth 100000 in
theorem rput_any (p : Pkt) (hs : p.da.size ≤ 1000000000) (w : World) : Calls Try.prog 12 #[pkVal p] w fun e w' => e = .returned (if Pk.Ok p then .tuple #[.string (bs (Pk.enc p)), .int .i64 0] else .tuple #[.string ⟨#[]⟩, .int .i64 2]) ∧ Below w.heap.size w w' := by
  have C := pk_new p w
  have B := Lib.hid (ba (Below.refl w.heap.size w) (.cells #[.bool p.cmd, .int .i64 p.ap, .int .i64 p.fl, .int .i64 p.ct, .string p.da] 23))
  have VA := Lib.hid (fun w => rvalid_any p hs w)
  by_cases h : Pk.Ok p
  · rw [if_pos h]
    rw [decide_eq_true h] at VA
    have CO := Lib.hid (fun w => rcode_any p h w)
    obtain ⟨R, hR⟩ : ∃ R, bs (Pk.enc p) = R := ⟨_, rfl⟩
    rw [hR] at CO ⊢
    clear h hR
    obtain ⟨cmd, ap, fl, ct, da⟩ := p
    unfold pkVal at VA CO ⊢
    simp only at VA CO hs ⊢
    obtain ⟨w1, hw1⟩ : ∃ w1, w.alloc (.cells #[.bool cmd, .int .i64 ap, .int .i64 fl, .int .i64 ct, .string da] 23) = w1 := ⟨_, rfl⟩
    obtain ⟨X, hX⟩ : ∃ X, w.heap.size = X := ⟨_, rfl⟩
    simp only at C B
    rw [hw1, hX] at C
    have c0 : w1.cell? ⟨X, 0, none⟩ = some (.bool cmd) := C.cell (j := 0) (by omega)
    have c1 : w1.cell? ⟨X, 1, none⟩ = some (.int .i64 ap) := C.cell (j := 1) (by omega)
    have c2 : w1.cell? ⟨X, 2, none⟩ = some (.int .i64 fl) := C.cell (j := 2) (by omega)
    have c3 : w1.cell? ⟨X, 3, none⟩ = some (.int .i64 ct) := C.cell (j := 3) (by omega)
    have c4 : w1.cell? ⟨X, 4, none⟩ = some (.string da) := C.cell (j := 4) (by omega)
    rw [hw1] at B
    have lX := C.lt
    have HW := Lib.hid hw1
    have HX := Lib.hid hX
    clear C hw1
    clear hX
    go_enter Try.func12, Try.ntmps12
    go_wp2_with (simp only [HW.out, HX.out])
    (with_reducible refine (VA.out _).mono ?_)
    rintro e w2 ⟨rfl, h2⟩
    have B2 := Lib.hid (bt B.out h2)
    have c0 := (h2.cell (p := ⟨X, 0, none⟩) lX).trans c0
    have c1 := (h2.cell (p := ⟨X, 1, none⟩) lX).trans c1
    have c2 := (h2.cell (p := ⟨X, 2, none⟩) lX).trans c2
    have c3 := (h2.cell (p := ⟨X, 3, none⟩) lX).trans c3
    have c4 := (h2.cell (p := ⟨X, 4, none⟩) lX).trans c4
    clear h2
    go_wp2_with fail
    (with_reducible refine (CO.out _).mono ?_)
    rintro e w3 ⟨rfl, h3⟩
    have B3 := Lib.hid (bt B2.out h3)
    clear h3
    go_wp2_with fail
    go_ret2
    exact ⟨rfl, B3.out⟩
  · rw [if_neg h]
    rw [decide_eq_false h] at VA
    clear h
    obtain ⟨cmd, ap, fl, ct, da⟩ := p
    unfold pkVal at VA ⊢
    simp only at VA hs ⊢
    obtain ⟨w1, hw1⟩ : ∃ w1, w.alloc (.cells #[.bool cmd, .int .i64 ap, .int .i64 fl, .int .i64 ct, .string da] 23) = w1 := ⟨_, rfl⟩
    obtain ⟨X, hX⟩ : ∃ X, w.heap.size = X := ⟨_, rfl⟩
    simp only at C B
    rw [hw1, hX] at C
    have c0 : w1.cell? ⟨X, 0, none⟩ = some (.bool cmd) := C.cell (j := 0) (by omega)
    have c1 : w1.cell? ⟨X, 1, none⟩ = some (.int .i64 ap) := C.cell (j := 1) (by omega)
    have c2 : w1.cell? ⟨X, 2, none⟩ = some (.int .i64 fl) := C.cell (j := 2) (by omega)
    have c3 : w1.cell? ⟨X, 3, none⟩ = some (.int .i64 ct) := C.cell (j := 3) (by omega)
    have c4 : w1.cell? ⟨X, 4, none⟩ = some (.string da) := C.cell (j := 4) (by omega)
    rw [hw1] at B
    have lX := C.lt
    have HW := Lib.hid hw1
    have HX := Lib.hid hX
    clear C hw1
    clear hX
    go_enter Try.func12, Try.ntmps12
    go_wp2_with (simp only [HW.out, HX.out])
    (with_reducible refine (VA.out _).mono ?_)
    rintro e w2 ⟨rfl, h2⟩
    have B2 := Lib.hid (bt B.out h2)
    clear h2
    go_wp2_with fail
    go_ret2
    exact ⟨rfl, B2.out⟩
end Go.Proofs.Ytphkaambodecdaa
