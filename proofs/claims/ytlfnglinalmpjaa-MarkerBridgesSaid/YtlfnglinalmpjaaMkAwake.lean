/- Layer 8: some of the chapter's results (perigeelaw08's awake). -/
import Derived.Test.YtlfnglinalmpjaaMkProg
import Derived.Test.YtlfnglinalmpjaaMkPAtt
namespace Go.Proofs.Ytlfnglinalmpjaa
open Go.RowKit
set_option linter.unusedVariables false

theorem sq_four : seqS 4 = ⟨#[255, 72, 14, 192]⟩ := by decide +kernel
theorem mix_two : mixS ⟨#[0, 72]⟩ 2 = ⟨#[255, 0]⟩ := by decide +kernel
theorem att_ok : listOk (attS ⟨#[1]⟩).data.toList = true := by decide +kernel
theorem att_size : (attS ⟨#[1]⟩).size = 33 := by decide +kernel
theorem one_ok : listOk (ByteArray.mk #[1]).data.toList = true := by decide +kernel
theorem eql_not (O : Addr) (w : World) : (binOp .eql 31 (.pointer (some O)) (.pointer none)).run Try.prog w = .ok (.bool false) w := by
  have h : ∀ d : Nat, (Op.equalIn (d + 1) 31 (.pointer (some O)) (.pointer none)).run Try.prog w = .ok false w := fun d => by
    simp [Op.equalIn, run_underlying Try.underlying31]
  simp only [binOp]
  simp [Op.equal, Op.maxDepth, h 9999]
theorem neq_not (O : Addr) (w : World) : (binOp .neq 31 (.pointer (some O)) (.pointer none)).run Try.prog w = .ok (.bool true) w := by
  have h : ∀ d : Nat, (Op.equalIn (d + 1) 31 (.pointer (some O)) (.pointer none)).run Try.prog w = .ok false w := fun d => by
    simp [Op.equalIn, run_underlying Try.underlying31]
  simp only [binOp]
  simp [Op.equal, Op.maxDepth, h 9999]
/-- The values of symbols are soft. -/
theorem soft_of {l : List UInt8} {n : Nat} (h : listOk l = true) (hn : l.length = n) : softOk (zof (sft l) n) = true := by
  rw [softOk_iff]
  intro i hi
  rw [zof_len] at hi
  have h2 := (listOk_iff l).1 h i (by omega)
  rw [zof_get _ _ _ hi]
  unfold sft sOk
  omega
/-- The first block of a stream that begins with a marker. -/
theorem wrong_sft {v : Nat → Int} {p : Nat} (h : ∀ k, k < 32 → (0 ≤ v (p + k) ↔ Mk.mbit k = 1)) : ∀ k, k ≤ 32 → Mk.wrongAt v p k = 0
  | 0, _ => rfl
  | k + 1, hk => by
    show Mk.wrongAt v p k + _ = 0
    rw [wrong_sft h k (by omega), if_pos (decide_eq_decide.2 (h k (by omega)))]
theorem att_bits : ∀ k, k < 32 → (0 ≤ sft (attS ⟨#[1]⟩).data.toList k ↔ Mk.mbit k = 1) := by decide +kernel
theorem awake_run : ∃ t, Mk.Runs (fz (zof (sft (attS ⟨#[1]⟩).data.toList) 33)) 1 33 Mk.Fs.init [(0, 0)] t ∧ t.locked = true := by
  obtain ⟨t, h, hl, _⟩ := Mk.bridged_all (v := fz (zof (sft (attS ⟨#[1]⟩).data.toList) 33)) (len := 1) (K := 1) (w := fun _ => 0) (fun k hk => by
    obtain rfl : k = 0 := by omega
    exact wrong_sft (fun k hk => by
      unfold fz
      rw [show 0 * (32 + 1) + k = k by omega, zof_get _ _ _ (by omega)]
      exact att_bits k hk) 32 (Nat.le_refl _)) (fun _ => by omega) (fun k hk => by
    match k, hk with
    | 0, _ => decide
    | 1, _ => decide)
  exact ⟨t, h, hl⟩
set_option maxRecDepth 100000 in
set_option maxHeartbeats 2000000 in
theorem awake_any (w : World) : Calls Try.prog 9 #[] w fun e w' => e = .returned (.bool true) ∧ Below w.heap.size w w' := by
  have SQ : Hid (∀ w, Calls Try.prog 10 #[.int .i64 4] w fun e w' => e = .returned (.tuple #[.string ⟨#[255, 72, 14, 192]⟩, .int .i64 0]) ∧ Below w.heap.size w w') := Lib.hid (fun w => by rw [← sq_four]; exact psq_any 4 (by omega) w)
  have MX : Hid (∀ w, Calls Try.prog 12 #[.string ⟨#[0, 72]⟩] w fun e w' => e = .returned (.tuple #[.string ⟨#[255, 0]⟩, .int .i64 0]) ∧ Below w.heap.size w w') := Lib.hid (fun w => by rw [← mix_two]; exact pmix_any _ 2 rfl (by omega) w)
  have AT := Lib.hid (fun w => patt_any ⟨#[1]⟩ 1 rfl (by omega) one_ok w)
  have PN : Hid (∀ w, Calls Try.prog 17 #[.int .i64 1] w fun e w' => ∃ own P, e = .returned (.tuple #[.pointer (some P), .int .i64 0]) ∧ PF own w' (.pointer (some P)) 1 [] Mk.Fs.init ∧ (∀ k, own k → w.heap.size ≤ k) ∧ Below w.heap.size w w') := Lib.hid (fun w => pnew_any 1 (by omega) (by omega) w)
  obtain ⟨t0, hrun, hlk⟩ := awake_run
  have SO := soft_of att_ok (by rw [ls, att_size])
  have hz := att_size
  have ha := att_ok
  obtain ⟨X, hX⟩ : ∃ X, attS ⟨#[1]⟩ = X := ⟨_, rfl⟩
  rw [hX] at AT SO hrun hz ha
  have SF := Lib.hid (fun w => lsoften_any X 33 hz (by omega) ha w)
  have HZ := Lib.hid hz
  have HS := Lib.hid SO
  have HR := Lib.hid hrun
  have HL := Lib.hid hlk
  clear hX hrun hlk SO ha
  go_enter Try.func9, Try.ntmps9
  go_wp2_with fail
  (with_reducible refine (SQ.out _).mono ?_)
  rintro e w1 ⟨rfl, h1⟩
  go_wp2_with fail
  (with_reducible refine (MX.out _).mono ?_)
  rintro e w2 ⟨rfl, h2⟩
  go_wp2_with fail
  (with_reducible refine (AT.out _).mono ?_)
  rintro e w3 ⟨rfl, h3⟩
  go_wp2_with fail
  (with_reducible refine (PN.out _).mono ?_)
  rintro e w4 ⟨own, P, rfl, pf, on, h4⟩
  have B3 := Lib.hid (bt (bt h1 h2) h3)
  have B4 := Lib.hid (bt B3.out h4)
  have PF4 := Lib.hid pf
  have q1 := eql_not P w4
  clear h1 h2 h3 h4 pf SQ MX AT PN
  go_wp2_with fail
  (with_reducible refine (SF.out _).mono ?_)
  rintro e w5 ⟨v, rfl, hown, h5⟩
  obtain ⟨fa, fc, rfl⟩ := own_is hown
  rw [zlist_zof] at hown
  obtain ⟨ys, hys⟩ : ∃ ys, zof (sft X.data.toList) 33 = ys := ⟨_, rfl⟩
  have yl : ys.length = 33 := by rw [← hys, zof_len]
  rw [hys] at hown HS HR
  have R5 := (ints_of_own (zs := ys) hown).1
  have FD := Lib.hid (pfeed_any own w5 (.pointer (some P)) 1 [] Mk.Fs.init (PF4.out.below h5) (by omega) (by omega) fa 33 fc ys yl (by simp) R5 HS.out (fun _ g o e q => by
    have := PF4.out.lt g q
    have := (hown.lt g (by rw [e]; rfl)).1
    omega))
  have B5 := Lib.hid (bt B4.out h5)
  have ON := Lib.hid on
  have YL := Lib.hid yl
  clear hown h5 R5 SF on hys yl q1
  go_wp2_with fail
  (with_reducible refine FD.out.mono ?_)
  rintro e w6 ⟨own', o, t, oa, oc, rfl, hoc, hr, pf6, _, br, bu⟩
  rw [List.nil_append] at hr pf6 br
  rw [YL.out] at hr
  obtain ⟨rfl, rfl⟩ := hr.unique HR.out
  have sl : (seg ys 32 1).length = 1 := seg_len _ _ _ (by rw [YL.out]; omega)
  rcases br with h0 | ⟨B, off, rfl, _, lB, hc⟩
  · simp [blks] at h0
  obtain ⟨c0, _, sa, sc, c2, _, _⟩ := hc 0 (0, 0, seg ys 32 1) rfl
  simp only [Nat.zero_mul, Nat.add_zero] at c0 c2
  rw [sl] at c2
  have LK := Lib.hid (plocked_any own' w6 (.pointer (some P)) 1 ys t pf6)
  rw [HL.out] at LK
  have AT : Hid (∀ w7 m, w7 = w6.drewN m → Calls Try.prog 27 #[.pointer (some P)] w7 fun e w' => e = .returned (.int .i64 33) ∧ ∃ m, w' = w7.drewN m) := Lib.hid (fun w7 m h => pat_any own' w7 (.pointer (some P)) 1 ys t (pf6.keep (by rw [h]; exact Nat.le_refl _) (fun _ _ _ => by rw [h]; rfl)) 33 YL.out (by omega))
  have B6 := Lib.hid (Buts.below B5.out bu (fun c hc => by have := ON.out c hc; have := B3.out.size; omega) B5.out.size)
  clear hr pf6 bu hc FD HR HL
  go_wp2_with fail
  (with_reducible refine LK.out.mono ?_)
  rintro e w7 ⟨rfl, m, h7⟩
  have AT7 := Lib.hid (AT.out w7 m h7)
  have H7 := Lib.hid h7
  clear h7 AT LK
  go_wp2_with fail
  (with_reducible refine AT7.out.mono ?_)
  rintro e w8 ⟨rfl, m2, h8⟩
  have H8 := Lib.hid h8
  clear h8
  go_wp2_with fail
  go_ret
  exact ⟨rfl, by rw [H8.out, H7.out]; exact below_drewN (below_drewN B6.out _) _⟩
end Go.Proofs.Ytlfnglinalmpjaa
