/- Layer 9, the landed program: the header of a packet, Put. -/
import Derived.Test.YtphkaambodecdaaPpWrit
namespace Go.Proofs.Ytphkaambodecdaa
open Go.RowKit Go.Shelf
set_option linter.unusedVariables false
set_option maxRecDepth 100000

/-- The seven numbers of a header, in memory. -/
theorem hnum_reads {w : World} {c A F C D : Nat} (ci : Int) (hc : ci = (c : Nat)) : FReads .i64 (w.alloc (.cells #[.int .i64 0, .int .i64 ci, .int .i64 0, .int .i64 (A : Nat), .int .i64 (F : Nat), .int .i64 (C : Nat), .int .i64 (D : Nat)] 3)) (some ⟨w.heap.size, 0, none⟩) ([0, c, 0, A, F, C, D].map Int.ofNat) := by
  subst hc
  refine .inr ⟨_, _, rfl, by rw [World.size_alloc]; omega, fun j hj => ?_⟩
  rw [Nat.zero_add]
  refine (World.cell?_alloc_new w _ _ j).trans ?_
  match j, hj with
  | 0, _ => rfl
  | 1, _ => rfl
  | 2, _ => rfl
  | 3, _ => rfl
  | 4, _ => rfl
  | 5, _ => rfl
  | 6, _ => rfl
set_option maxHeartbeats 4000000 in
theorem header_any (p : Pkt) (h : Pk.Ok p) (w : World) : Calls Try.prog 32 #[pkVal p] w fun e w' => e = .returned (.string (bs (Pk.hdr p))) ∧ Below w.heap.size w w' := by
  have C := pk_new p w
  have B := Lib.hid (ba (Below.refl w.heap.size w) (.cells #[.bool p.cmd, .int .i64 p.ap, .int .i64 p.fl, .int .i64 p.ct, .string p.da] 23))
  have PH := Lib.hid (Pk.pack_hdr h).2
  obtain ⟨R, hR⟩ : ∃ R, bs (Pk.hdr p) = R := ⟨_, rfl⟩
  have HR := Lib.hid hR
  rw [hR]
  obtain ⟨cmd, ap, fl, ct, da⟩ := p
  obtain ⟨⟨a0, a1⟩, ⟨f0, f1⟩, ⟨t0, t1⟩, d0, d1⟩ := h
  obtain ⟨A, rfl⟩ := Int.eq_ofNat_of_zero_le a0
  obtain ⟨F, rfl⟩ := Int.eq_ofNat_of_zero_le f0
  obtain ⟨T, rfl⟩ := Int.eq_ofNat_of_zero_le t0
  simp only at a1 f1 t1 d0 d1
  obtain ⟨D, hD⟩ : ∃ D, da.size = D := ⟨_, rfl⟩
  obtain ⟨E, hE⟩ : ∃ E, D - 1 = E := ⟨_, rfl⟩
  unfold Pk.hnum at PH
  simp only [hD, hE] at PH d0 d1
  have e1 : IntKind.i64.wrap ((D : Int) - 1) = (E : Int) := by rw [IntKind.wrap_i64]; omega
  have e2 : (D : Int) - 1 = (E : Int) := by omega
  have z1 : A ≤ 2047 := by omega
  have z2 : F ≤ 3 := by omega
  have z3 : T ≤ 16383 := by omega
  have z4 : E ≤ 1023 := by omega
  have HD := Lib.hid hD
  have sn := HD.out
  unfold pkVal
  simp only
  clear hR hD hE a0 a1 f0 f1 t0 t1 d0 d1
  obtain ⟨w1, hw1⟩ : ∃ w1, w.alloc (.cells #[.bool cmd, .int .i64 (A : Int), .int .i64 (F : Int), .int .i64 (T : Int), .string da] 23) = w1 := ⟨_, rfl⟩
  obtain ⟨X, hX⟩ : ∃ X, w.heap.size = X := ⟨_, rfl⟩
  simp only at C B
  rw [hw1, hX] at C
  have c0 : w1.cell? ⟨X, 0, none⟩ = some (.bool cmd) := C.cell (j := 0) (by omega)
  have c1 : w1.cell? ⟨X, 1, none⟩ = some (.int .i64 (A : Int)) := C.cell (j := 1) (by omega)
  have c2 : w1.cell? ⟨X, 2, none⟩ = some (.int .i64 (F : Int)) := C.cell (j := 2) (by omega)
  have c3 : w1.cell? ⟨X, 3, none⟩ = some (.int .i64 (T : Int)) := C.cell (j := 3) (by omega)
  have c4 : w1.cell? ⟨X, 4, none⟩ = some (.string da) := C.cell (j := 4) (by omega)
  rw [hw1] at B
  have lX := C.lt
  have HW := Lib.hid hw1
  have HX := Lib.hid hX
  clear C hw1 hX
  cases cmd with
  | false =>
    have PV := Lib.hid (show (⟨(Fld.packV Pk.wid [0, 0, 0, A, F, T, E]).toArray⟩ : ByteArray) = R from (by
      have h := PH.out
      simp only [Int.toNat_natCast, Bool.false_eq_true, if_false] at h
      rw [h]
      exact HR.out))
    have BN := Lib.hid (ba (Below.refl w1.heap.size w1) (.cells #[.int .i64 0, .int .i64 0, .int .i64 0, .int .i64 (A : Nat), .int .i64 (F : Nat), .int .i64 (T : Nat), .int .i64 (E : Nat)] 3))
    have WR := Lib.hid (written_any w1.heap.size 0 7 [0, 0, 0, A, F, T, E] rfl (fun j hj => by
      match j, hj with
      | 0, _ => simp
      | 1, _ => simp
      | 2, _ => simp
      | 3, _ => simp; omega
      | 4, _ => simp; omega
      | 5, _ => simp; omega
      | 6, _ => simp; omega) _ (hnum_reads (w := w1) (c := 0) (A := A) (F := F) (C := T) (D := E) 0 rfl))
    rw [PV.out] at WR
    go_enter Try.func32, Try.ntmps32
    go_wp2_with (simp only [HW.out, HX.out])
    (with_reducible refine WR.out.mono ?_)
    rintro e w2 ⟨rfl, h2⟩
    have B2 := Lib.hid (bt B.out (bt BN.out h2))
    clear h2
    go_wp2_with fail
    go_ret
    exact ⟨rfl, by first | exact B2.out | (have := B2.out; rw [HX.out] at this; exact this)⟩
  | true =>
    have PV := Lib.hid (show (⟨(Fld.packV Pk.wid [0, 1, 0, A, F, T, E]).toArray⟩ : ByteArray) = R from (by
      have h := PH.out
      simp only [Int.toNat_natCast, if_true] at h
      rw [h]
      exact HR.out))
    have BN := Lib.hid (ba (Below.refl w1.heap.size w1) (.cells #[.int .i64 0, .int .i64 1, .int .i64 0, .int .i64 (A : Nat), .int .i64 (F : Nat), .int .i64 (T : Nat), .int .i64 (E : Nat)] 3))
    have WR := Lib.hid (written_any w1.heap.size 0 7 [0, 1, 0, A, F, T, E] rfl (fun j hj => by
      match j, hj with
      | 0, _ => simp
      | 1, _ => simp
      | 2, _ => simp
      | 3, _ => simp; omega
      | 4, _ => simp; omega
      | 5, _ => simp; omega
      | 6, _ => simp; omega) _ (hnum_reads (w := w1) (c := 1) (A := A) (F := F) (C := T) (D := E) 1 rfl))
    rw [PV.out] at WR
    go_enter Try.func32, Try.ntmps32
    go_wp2_with (simp only [HW.out, HX.out])
    (with_reducible refine WR.out.mono ?_)
    rintro e w2 ⟨rfl, h2⟩
    have B2 := Lib.hid (bt B.out (bt BN.out h2))
    clear h2
    go_wp2_with fail
    go_ret
    exact ⟨rfl, by first | exact B2.out | (have := B2.out; rw [HX.out] at this; exact this)⟩
structure PtRegion (X : Nat) (cmd : Bool) (ap fl ct : Int) (da H : ByteArray) (A : Act) (w0 : World) (s : Nat → Bool) (a : Act) (w : World) : Prop where
  off : Off [7, 8, 9, 10, 11, 2, 3] a A
  before : Below w0.heap.size w0 w
  t0 : s 0 = true → a.eval (.tmp 7) = .agg #[.bool cmd, .int .i64 ap, .int .i64 fl, .int .i64 ct, .string da]
  t1 : s 1 = true → a.eval (.tmp 8) = .string H
  t2 : s 2 = true → a.eval (.tmp 9) = .pointer (some ⟨X, 4, none⟩)
  t3 : s 3 = true → a.eval (.tmp 10) = .string da
  t4 : s 4 = true → a.eval (.tmp 11) = .string (H ++ da)
  t5 : s 5 = true → a.eval (.tmp 2) = .string (H ++ da)
  t6 : s 6 = true → a.eval (.tmp 3) = .int .i64 0
set_option maxHeartbeats 2000000 in
set_option maxRecDepth 100000 in
theorem ptRegion {id : Nat} {d : Bool} {l : List Oper} {A : Act} {w : World} {Q : Exit → Act → World → Prop} (X : Nat) (cmd : Bool) (ap fl ct : Int) (da H : ByteArray)
    (lX : X < w.heap.size) (hH : H.size = 6) (hD : da.size ≤ 1024)
    (c0 : w.cell? ⟨X, 0, none⟩ = some (.bool cmd))
    (c1 : w.cell? ⟨X, 1, none⟩ = some (.int .i64 ap))
    (c2 : w.cell? ⟨X, 2, none⟩ = some (.int .i64 fl))
    (c3 : w.cell? ⟨X, 3, none⟩ = some (.int .i64 ct))
    (c4 : w.cell? ⟨X, 4, none⟩ = some (.string da))
    (HD : ∀ w, Calls Try.prog 32 #[.agg #[.bool cmd, .int .i64 ap, .int .i64 fl, .int .i64 ct, .string da]] w fun e w' => e = .returned (.string H) ∧ Below w.heap.size w w')
    (hB : tableL d l.toArray (fun i => match i with | 0 => [] | 1 => [0] | 2 => [] | 3 => [2] | 4 => [1, 3] | 5 => [4] | 6 => [] | _ => []) (fun i => match i with | 0 => [] | 1 => [] | 2 => [] | 3 => [] | 4 => [] | 5 => [] | 6 => [] | _ => []) = true) (hl : l.length = 7)
    (h0 : pick l 0 = some (.load 23 (.tmp 1), some 7))
    (h1 : pick l 1 = some (.call { callee := .value (.func 32), args := #[.tmp 7], argTypes := #[23] }, some 8))
    (h2 : pick l 2 = some (.fieldAddr 23 (.tmp 1) 4, some 9))
    (h3 : pick l 3 = some (.load 9 (.tmp 9), some 10))
    (h4 : pick l 4 = some (.binOp .add 9 (.tmp 8) (.tmp 10) 9, some 11))
    (h5 : pick l 5 = some (.assign (.tmp 11), some 2))
    (h6 : pick l 6 = some (.assign (.const (.int .i64 0)), some 3))
    (hs : A.tmps.size = 12)
    (x1 : A.eval (.tmp 1) = .pointer (some ⟨X, 0, none⟩))
    (h : ∀ w1, Below w.heap.size w w1 → Q .normal (((((((A.put (some 7) (.agg #[.bool cmd, .int .i64 ap, .int .i64 fl, .int .i64 ct, .string da])).put (some 8) (.string H)).put (some 9) (.pointer (some ⟨X, 4, none⟩))).put (some 10) (.string da)).put (some 11) (.string (H ++ da))).put (some 2) (.string (H ++ da))).put (some 3) (.int .i64 0)) w1) :
    (Code.region id l.toArray d).wp Try.prog Q A w := by
  refine wp_region_invL (by kernel_rfl) _ _ hB (PtRegion X cmd ap fl ct da H A w) ⟨Off.refl _ _, Below.refl _ _, by simp, by simp, by simp, by simp, by simp, by simp, by simp⟩ ⟨Off.refl _ _, (Below.refl _ _).drew, by simp, by simp, by simp, by simp, by simp, by simp, by simp⟩ ?_ ?_
  · intro s a w' S i' o ho hsi hT K hK
    have sz : a.tmps.size = 12 := by rw [S.off.2.1]; exact hs
    have il : i' < 7 := by have := (List.getElem?_eq_some_iff.1 ho).1; omega
    have y1 : a.eval (.tmp 1) = .pointer (some ⟨X, 0, none⟩) := by rw [S.off.eval (by decide)]; exact x1
    match i', il, ho, hsi, hT with
    | 0, _, ho, hsi, hT =>
      obtain ⟨e1, e2⟩ := pick_of h0 ho
      have BW := S.before
      have cl0 := (BW.cell (p := ⟨X, 0, none⟩) lX).trans c0
      have cl1 := (BW.cell (p := ⟨X, 1, none⟩) lX).trans c1
      have cl2 := (BW.cell (p := ⟨X, 2, none⟩) lX).trans c2
      have cl3 := (BW.cell (p := ⟨X, 3, none⟩) lX).trans c3
      have cl4 := (BW.cell (p := ⟨X, 4, none⟩) lX).trans c4
      refine step_val (v := .agg #[.bool cmd, .int .i64 ap, .int .i64 fl, .int .i64 ct, .string da]) (by simp only [execOp, e1, y1]; go_simp) (hK _ _ ?_)
      rw [e2]
      exact ⟨S.off.put (by decide) _, S.before, fun _ => (eval_put _ _ _ (by omega)).trans rfl, fun g => by rw [eval_put_ne _ _ _ _ (by decide)]; exact S.t1 (by simpa using g), fun g => by rw [eval_put_ne _ _ _ _ (by decide)]; exact S.t2 (by simpa using g), fun g => by rw [eval_put_ne _ _ _ _ (by decide)]; exact S.t3 (by simpa using g), fun g => by rw [eval_put_ne _ _ _ _ (by decide)]; exact S.t4 (by simpa using g), fun g => by rw [eval_put_ne _ _ _ _ (by decide)]; exact S.t5 (by simpa using g), fun g => by rw [eval_put_ne _ _ _ _ (by decide)]; exact S.t6 (by simpa using g)⟩
    | 1, _, ho, hsi, hT =>
      obtain ⟨e1, e2⟩ := pick_of h1 ho
      have D0 : s 0 = true := list_pos hT (d := 0) (by decide)
      have BW := S.before
      refine step_call 32 (fun args w => by go_simp) _ _ e1 #[.agg #[.bool cmd, .int .i64 ap, .int .i64 fl, .int .i64 ct, .string da]] (by simp only [List.map_toArray, List.map_cons, List.map_nil, S.t0 D0]) ((HD w').mono ?_)
      rintro e w2 ⟨rfl, BB⟩
      refine ⟨_, rfl, hK _ _ ?_⟩
      rw [e2]
      exact ⟨S.off.put (by decide) _, bt BW BB, fun g => by rw [eval_put_ne _ _ _ _ (by decide)]; exact S.t0 (by simpa using g), fun _ => (eval_put _ _ _ (by omega)).trans rfl, fun g => by rw [eval_put_ne _ _ _ _ (by decide)]; exact S.t2 (by simpa using g), fun g => by rw [eval_put_ne _ _ _ _ (by decide)]; exact S.t3 (by simpa using g), fun g => by rw [eval_put_ne _ _ _ _ (by decide)]; exact S.t4 (by simpa using g), fun g => by rw [eval_put_ne _ _ _ _ (by decide)]; exact S.t5 (by simpa using g), fun g => by rw [eval_put_ne _ _ _ _ (by decide)]; exact S.t6 (by simpa using g)⟩
    | 2, _, ho, hsi, hT =>
      obtain ⟨e1, e2⟩ := pick_of h2 ho
      have BW := S.before
      refine step_val (v := .pointer (some ⟨X, 4, none⟩)) (by simp only [execOp, e1, y1]; go_simp) (hK _ _ ?_)
      rw [e2]
      exact ⟨S.off.put (by decide) _, S.before, fun g => by rw [eval_put_ne _ _ _ _ (by decide)]; exact S.t0 (by simpa using g), fun g => by rw [eval_put_ne _ _ _ _ (by decide)]; exact S.t1 (by simpa using g), fun _ => (eval_put _ _ _ (by omega)).trans rfl, fun g => by rw [eval_put_ne _ _ _ _ (by decide)]; exact S.t3 (by simpa using g), fun g => by rw [eval_put_ne _ _ _ _ (by decide)]; exact S.t4 (by simpa using g), fun g => by rw [eval_put_ne _ _ _ _ (by decide)]; exact S.t5 (by simpa using g), fun g => by rw [eval_put_ne _ _ _ _ (by decide)]; exact S.t6 (by simpa using g)⟩
    | 3, _, ho, hsi, hT =>
      obtain ⟨e1, e2⟩ := pick_of h3 ho
      have D2 : s 2 = true := list_pos hT (d := 2) (by decide)
      have BW := S.before
      have cl4 := (BW.cell (p := ⟨X, 4, none⟩) lX).trans c4
      refine step_val (v := .string da) (by simp only [execOp, e1, S.t2 D2]; go_simp) (hK _ _ ?_)
      rw [e2]
      exact ⟨S.off.put (by decide) _, S.before, fun g => by rw [eval_put_ne _ _ _ _ (by decide)]; exact S.t0 (by simpa using g), fun g => by rw [eval_put_ne _ _ _ _ (by decide)]; exact S.t1 (by simpa using g), fun g => by rw [eval_put_ne _ _ _ _ (by decide)]; exact S.t2 (by simpa using g), fun _ => (eval_put _ _ _ (by omega)).trans rfl, fun g => by rw [eval_put_ne _ _ _ _ (by decide)]; exact S.t4 (by simpa using g), fun g => by rw [eval_put_ne _ _ _ _ (by decide)]; exact S.t5 (by simpa using g), fun g => by rw [eval_put_ne _ _ _ _ (by decide)]; exact S.t6 (by simpa using g)⟩
    | 4, _, ho, hsi, hT =>
      obtain ⟨e1, e2⟩ := pick_of h4 ho
      have D1 : s 1 = true := list_pos hT (d := 1) (by decide)
      have D3 : s 3 = true := list_pos hT (d := 3) (by decide)
      have BW := S.before
      refine step_val (v := .string (H ++ da)) (by simp only [execOp, e1, S.t1 D1, S.t3 D3]; go_simp; omega) (hK _ _ ?_)
      rw [e2]
      exact ⟨S.off.put (by decide) _, S.before, fun g => by rw [eval_put_ne _ _ _ _ (by decide)]; exact S.t0 (by simpa using g), fun g => by rw [eval_put_ne _ _ _ _ (by decide)]; exact S.t1 (by simpa using g), fun g => by rw [eval_put_ne _ _ _ _ (by decide)]; exact S.t2 (by simpa using g), fun g => by rw [eval_put_ne _ _ _ _ (by decide)]; exact S.t3 (by simpa using g), fun _ => (eval_put _ _ _ (by omega)).trans rfl, fun g => by rw [eval_put_ne _ _ _ _ (by decide)]; exact S.t5 (by simpa using g), fun g => by rw [eval_put_ne _ _ _ _ (by decide)]; exact S.t6 (by simpa using g)⟩
    | 5, _, ho, hsi, hT =>
      obtain ⟨e1, e2⟩ := pick_of h5 ho
      have D4 : s 4 = true := list_pos hT (d := 4) (by decide)
      have BW := S.before
      refine step_val (v := .string (H ++ da)) (by simp only [execOp, e1, S.t4 D4]; go_simp) (hK _ _ ?_)
      rw [e2]
      exact ⟨S.off.put (by decide) _, S.before, fun g => by rw [eval_put_ne _ _ _ _ (by decide)]; exact S.t0 (by simpa using g), fun g => by rw [eval_put_ne _ _ _ _ (by decide)]; exact S.t1 (by simpa using g), fun g => by rw [eval_put_ne _ _ _ _ (by decide)]; exact S.t2 (by simpa using g), fun g => by rw [eval_put_ne _ _ _ _ (by decide)]; exact S.t3 (by simpa using g), fun g => by rw [eval_put_ne _ _ _ _ (by decide)]; exact S.t4 (by simpa using g), fun _ => (eval_put _ _ _ (by omega)).trans rfl, fun g => by rw [eval_put_ne _ _ _ _ (by decide)]; exact S.t6 (by simpa using g)⟩
    | 6, _, ho, hsi, hT =>
      obtain ⟨e1, e2⟩ := pick_of h6 ho
      have BW := S.before
      refine step_val (v := .int .i64 0) (by simp only [execOp, e1]; go_simp) (hK _ _ ?_)
      rw [e2]
      exact ⟨S.off.put (by decide) _, S.before, fun g => by rw [eval_put_ne _ _ _ _ (by decide)]; exact S.t0 (by simpa using g), fun g => by rw [eval_put_ne _ _ _ _ (by decide)]; exact S.t1 (by simpa using g), fun g => by rw [eval_put_ne _ _ _ _ (by decide)]; exact S.t2 (by simpa using g), fun g => by rw [eval_put_ne _ _ _ _ (by decide)]; exact S.t3 (by simpa using g), fun g => by rw [eval_put_ne _ _ _ _ (by decide)]; exact S.t4 (by simpa using g), fun g => by rw [eval_put_ne _ _ _ _ (by decide)]; exact S.t5 (by simpa using g), fun _ => (eval_put _ _ _ (by omega)).trans rfl⟩
  · intro s a w' S hall
    have a0 := hall 0 (by omega)
    have a1 := hall 1 (by omega)
    have a2 := hall 2 (by omega)
    have a3 := hall 3 (by omega)
    have a4 := hall 4 (by omega)
    have a5 := hall 5 (by omega)
    have a6 := hall 6 (by omega)
    have e := off_norm _ (by intro d hd; simp at hd; omega) S.off
    simp only [List.foldl, S.t0 a0, S.t1 a1, S.t2 a2, S.t3 a3, S.t4 a4, S.t5 a5, S.t6 a6] at e
    rw [e]
    exact h _ S.before
set_option maxHeartbeats 4000000 in
theorem pput_any (p : Pkt) (hs : p.da.size ≤ maxLen) (w : World) : Calls Try.prog 11 #[pkVal p] w fun e w' => e = .returned (if Pk.Ok p then .tuple #[.string (bs (Pk.enc p)), .int .i64 0] else .tuple #[.string ⟨#[]⟩, .int .i64 2]) ∧ Below w.heap.size w w' := by
  have C := pk_new p w
  have B := Lib.hid (ba (Below.refl w.heap.size w) (.cells #[.bool p.cmd, .int .i64 p.ap, .int .i64 p.fl, .int .i64 p.ct, .string p.da] 23))
  have VA := Lib.hid (fun w => pvalid_any p hs w)
  by_cases h : Pk.Ok p
  · rw [if_pos h]
    rw [decide_eq_true h] at VA
    have HD := Lib.hid (fun w => header_any p h w)
    have HE := Lib.hid (show bs (Pk.enc p) = bs (Pk.hdr p) ++ p.da by rw [Pk.hdr_enc, ← bs_app, bs_self])
    have HS := Lib.hid (show (bs (Pk.hdr p)).size = 6 by rw [bs_size]; rfl)
    have DS := Lib.hid h.2.2.2.2
    obtain ⟨H, hH⟩ : ∃ H, bs (Pk.hdr p) = H := ⟨_, rfl⟩
    rw [hH] at HD HE HS
    rw [HE.out]
    clear h hH hs
    obtain ⟨cmd, ap, fl, ct, da⟩ := p
    unfold pkVal at VA HD ⊢
    simp only at VA HD DS ⊢
    obtain ⟨w1, hw1⟩ : ∃ w1, w.alloc (.cells #[.bool cmd, .int .i64 ap, .int .i64 fl, .int .i64 ct, .string da] 23) = w1 := ⟨_, rfl⟩
    obtain ⟨X, hX⟩ : ∃ X, w.heap.size = X := ⟨_, rfl⟩
    simp only at C B
    rw [hw1, hX] at C
    have c0 : w1.cell? ⟨X, 0, none⟩ = some (.bool cmd) := C.cell (j := 0) (by omega)
    have c1 : w1.cell? ⟨X, 1, none⟩ = some (.int .i64 ap) := C.cell (j := 1) (by omega)
    have c2 : w1.cell? ⟨X, 2, none⟩ = some (.int .i64 fl) := C.cell (j := 2) (by omega)
    have c3 : w1.cell? ⟨X, 3, none⟩ = some (.int .i64 ct) := C.cell (j := 3) (by omega)
    have c4 : w1.cell? ⟨X, 4, none⟩ = some (.string da) := C.cell (j := 4) (by omega)
    rw [hw1] at B
    have lX := C.lt
    have HW := Lib.hid hw1
    have HX := Lib.hid hX
    clear C hw1 hX
    go_enter Try.func11, Try.ntmps11
    go_wp2_with (simp only [HW.out, HX.out])
    (with_reducible refine (VA.out _).mono ?_)
    rintro e w2 ⟨rfl, h2⟩
    have B2 := Lib.hid (bt B.out h2)
    have c0 := (h2.cell (p := ⟨X, 0, none⟩) lX).trans c0
    have c1 := (h2.cell (p := ⟨X, 1, none⟩) lX).trans c1
    have c2 := (h2.cell (p := ⟨X, 2, none⟩) lX).trans c2
    have c3 := (h2.cell (p := ⟨X, 3, none⟩) lX).trans c3
    have c4 := (h2.cell (p := ⟨X, 4, none⟩) lX).trans c4
    have lX2 := Nat.lt_of_lt_of_le lX h2.size
    clear h2
    go_upto_region 3 with fail
    refine ptRegion X cmd ap fl ct da H lX2 HS.out DS.out c0 c1 c2 c3 c4 HD.out (by kernel_rfl) rfl rfl rfl rfl rfl rfl rfl rfl rfl rfl ?_
    intro w3 h3
    have B3 := Lib.hid (bt B2.out h3)
    clear h3
    simp only [Act.put, List.setIfInBounds_toArray, List.set_cons_succ, List.set_cons_zero]
    go_wp2_with fail
    go_ret2
    exact ⟨rfl, by first | exact B3.out | (have := B3.out; rw [HX.out] at this; exact this)⟩
  · rw [if_neg h]
    rw [decide_eq_false h] at VA
    clear h hs
    obtain ⟨cmd, ap, fl, ct, da⟩ := p
    unfold pkVal at VA ⊢
    simp only at VA ⊢
    obtain ⟨w1, hw1⟩ : ∃ w1, w.alloc (.cells #[.bool cmd, .int .i64 ap, .int .i64 fl, .int .i64 ct, .string da] 23) = w1 := ⟨_, rfl⟩
    obtain ⟨X, hX⟩ : ∃ X, w.heap.size = X := ⟨_, rfl⟩
    simp only at C B
    rw [hw1, hX] at C
    have c0 : w1.cell? ⟨X, 0, none⟩ = some (.bool cmd) := C.cell (j := 0) (by omega)
    have c1 : w1.cell? ⟨X, 1, none⟩ = some (.int .i64 ap) := C.cell (j := 1) (by omega)
    have c2 : w1.cell? ⟨X, 2, none⟩ = some (.int .i64 fl) := C.cell (j := 2) (by omega)
    have c3 : w1.cell? ⟨X, 3, none⟩ = some (.int .i64 ct) := C.cell (j := 3) (by omega)
    have c4 : w1.cell? ⟨X, 4, none⟩ = some (.string da) := C.cell (j := 4) (by omega)
    rw [hw1] at B
    have lX := C.lt
    have HW := Lib.hid hw1
    have HX := Lib.hid hX
    clear C hw1 hX
    go_enter Try.func11, Try.ntmps11
    go_wp2_with (simp only [HW.out, HX.out])
    (with_reducible refine (VA.out _).mono ?_)
    rintro e w2 ⟨rfl, h2⟩
    have B2 := Lib.hid (bt B.out h2)
    clear h2
    go_wp2_with fail
    go_ret2
    exact ⟨rfl, by first | exact B2.out | (have := B2.out; rw [HX.out] at this; exact this)⟩
end Go.Proofs.Ytphkaambodecdaa
