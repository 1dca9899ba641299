/- Layer 8: the reference's Mix, Marker and Attach. -/
import Derived.Test.YtlfnglinalmpjaaMkRef
namespace Go.Proofs.Ytlfnglinalmpjaa
open Go.RowKit
set_option linter.unusedVariables false

structure MixRegion (b sq : ByteArray) (vo : Value) (i : Nat) (x y z : BitVec 8) (A : Act) (w0 : World) (s : Nat → Bool) (a : Act) (w : World) : Prop where
  off : Off [23, 24, 25, 26, 27, 28, 29, 30, 31] a A
  before : Below w0.heap.size w0 w
  t0 : s 0 = true → a.eval (.tmp 23) = vo
  t1 : s 1 = true → a.eval (.tmp 24) = .string b
  t2 : s 2 = true → a.eval (.tmp 25) = .int .i64 (i : Nat)
  t3 : s 3 = true → a.eval (.tmp 26) = .int .u8 (x.toNat : Nat)
  t4 : s 4 = true → a.eval (.tmp 27) = .string sq
  t5 : s 5 = true → a.eval (.tmp 28) = .int .i64 (i : Nat)
  t6 : s 6 = true → a.eval (.tmp 29) = .int .u8 (y.toNat : Nat)
  t7 : s 7 = true → a.eval (.tmp 30) = .int .u8 (z.toNat : Nat)
  t8 : s 8 = true → ∃ v8, a.eval (.tmp 31) = v8 ∧ Bld (.int .u8 (z.toNat : Nat)) v8 w
set_option maxHeartbeats 2000000 in
set_option maxRecDepth 100000 in
theorem mixRegion {id : Nat} {l : List Oper} {A : Act} {w : World} {Q : Exit → Act → World → Prop} (b sq : ByteArray) (vo : Value) (i : Nat) (x y z : BitVec 8)
    (hb : i < b.size) (hs1 : i < sq.size) (hx : Gal.co b.data.toList i = x) (hy : Gal.co sq.data.toList i = y) (hz : bits .xor .u8 (x.toNat : Int) (y.toNat : Int) = (z.toNat : Int))
    (hB : tableH l.toArray 9 (fun i => match i with | 0 => [] | 1 => [] | 2 => [] | 3 => [1, 2] | 4 => [] | 5 => [] | 6 => [4, 5] | 7 => [3, 6] | 8 => [7] | _ => []) (fun _ => []) = true)
    (h0 : pick l 0 = some (.move (.tmp 6), some 23))
    (h1 : pick l 1 = some (.move (.tmp 0), some 24))
    (h2 : pick l 2 = some (.move (.tmp 7), some 25))
    (h3 : pick l 3 = some (.index 9 (.tmp 24) (.tmp 25), some 26))
    (h4 : pick l 4 = some (.move (.tmp 4), some 27))
    (h5 : pick l 5 = some (.move (.tmp 7), some 28))
    (h6 : pick l 6 = some (.index 9 (.tmp 27) (.tmp 28), some 29))
    (h7 : pick l 7 = some (.binOp .xor 5 (.tmp 26) (.tmp 29) 5, some 30))
    (h8 : pick l 8 = some (.buildSlice 53 1 #[(0, .tmp 30)], some 31))
    (hs : A.tmps.size = 35)
    (x0 : A.eval (.tmp 0) = .string b)
    (x4 : A.eval (.tmp 4) = .string sq)
    (x6 : A.eval (.tmp 6) = vo)
    (x7 : A.eval (.tmp 7) = .int .i64 (i : Nat))
    (h : ∀ v8 w1, Below w.heap.size w w1 → Bld (.int .u8 (z.toNat : Nat)) v8 w1 → wpList Try.prog l.toArray Q (l.drop 9) (((((((((A.put (some 23) (vo)).put (some 24) (.string b)).put (some 25) (.int .i64 (i : Nat))).put (some 26) (.int .u8 (x.toNat : Nat))).put (some 27) (.string sq)).put (some 28) (.int .i64 (i : Nat))).put (some 29) (.int .u8 (y.toNat : Nat))).put (some 30) (.int .u8 (z.toNat : Nat))).put (some 31) (v8)) w1) :
    (Code.region id l.toArray true).wp Try.prog Q A w := by
  refine wp_region_head (by kernel_rfl) _ _ _ hB (MixRegion b sq vo i x y z A w) ⟨Off.refl _ _, (Below.refl _ _).drew, by simp, by simp, by simp, by simp, by simp, by simp, by simp, by simp, by simp⟩ ?_ ?_
  · intro s a w' S i' o il ho hsi hT K hK
    have sz : a.tmps.size = 35 := by rw [S.off.2.1]; exact hs
    have y0 : a.eval (.tmp 0) = .string b := by rw [S.off.eval (by decide)]; exact x0
    have y4 : a.eval (.tmp 4) = .string sq := by rw [S.off.eval (by decide)]; exact x4
    have y6 : a.eval (.tmp 6) = vo := by rw [S.off.eval (by decide)]; exact x6
    have y7 : a.eval (.tmp 7) = .int .i64 (i : Nat) := by rw [S.off.eval (by decide)]; exact x7
    match i', il, ho, hsi, hT with
    | 0, _, ho, hsi, hT =>
      obtain ⟨e1, e2⟩ := pick_of h0 ho
      have BW := S.before
      refine step_val (v := vo) (by simp only [execOp, e1, y6]; go_simp) (hK _ _ ?_)
      rw [e2]
      exact ⟨S.off.put (by decide) _, S.before, fun _ => (eval_put _ _ _ (by omega)).trans rfl, fun g => by rw [eval_put_ne _ _ _ _ (by decide)]; exact S.t1 (by simpa using g), fun g => by rw [eval_put_ne _ _ _ _ (by decide)]; exact S.t2 (by simpa using g), fun g => by rw [eval_put_ne _ _ _ _ (by decide)]; exact S.t3 (by simpa using g), fun g => by rw [eval_put_ne _ _ _ _ (by decide)]; exact S.t4 (by simpa using g), fun g => by rw [eval_put_ne _ _ _ _ (by decide)]; exact S.t5 (by simpa using g), fun g => by rw [eval_put_ne _ _ _ _ (by decide)]; exact S.t6 (by simpa using g), fun g => by rw [eval_put_ne _ _ _ _ (by decide)]; exact S.t7 (by simpa using g), fun g => (S.t8 (by simpa using g)).imp fun b hb => ⟨by rw [eval_put_ne _ _ _ _ (by decide)]; exact hb.1, hb.2⟩⟩
    | 1, _, ho, hsi, hT =>
      obtain ⟨e1, e2⟩ := pick_of h1 ho
      have BW := S.before
      refine step_val (v := .string b) (by simp only [execOp, e1, y0]; go_simp) (hK _ _ ?_)
      rw [e2]
      exact ⟨S.off.put (by decide) _, S.before, fun g => by rw [eval_put_ne _ _ _ _ (by decide)]; exact S.t0 (by simpa using g), fun _ => (eval_put _ _ _ (by omega)).trans rfl, fun g => by rw [eval_put_ne _ _ _ _ (by decide)]; exact S.t2 (by simpa using g), fun g => by rw [eval_put_ne _ _ _ _ (by decide)]; exact S.t3 (by simpa using g), fun g => by rw [eval_put_ne _ _ _ _ (by decide)]; exact S.t4 (by simpa using g), fun g => by rw [eval_put_ne _ _ _ _ (by decide)]; exact S.t5 (by simpa using g), fun g => by rw [eval_put_ne _ _ _ _ (by decide)]; exact S.t6 (by simpa using g), fun g => by rw [eval_put_ne _ _ _ _ (by decide)]; exact S.t7 (by simpa using g), fun g => (S.t8 (by simpa using g)).imp fun b hb => ⟨by rw [eval_put_ne _ _ _ _ (by decide)]; exact hb.1, hb.2⟩⟩
    | 2, _, ho, hsi, hT =>
      obtain ⟨e1, e2⟩ := pick_of h2 ho
      have BW := S.before
      refine step_val (v := .int .i64 (i : Nat)) (by simp only [execOp, e1, y7]; go_simp) (hK _ _ ?_)
      rw [e2]
      exact ⟨S.off.put (by decide) _, S.before, fun g => by rw [eval_put_ne _ _ _ _ (by decide)]; exact S.t0 (by simpa using g), fun g => by rw [eval_put_ne _ _ _ _ (by decide)]; exact S.t1 (by simpa using g), fun _ => (eval_put _ _ _ (by omega)).trans rfl, fun g => by rw [eval_put_ne _ _ _ _ (by decide)]; exact S.t3 (by simpa using g), fun g => by rw [eval_put_ne _ _ _ _ (by decide)]; exact S.t4 (by simpa using g), fun g => by rw [eval_put_ne _ _ _ _ (by decide)]; exact S.t5 (by simpa using g), fun g => by rw [eval_put_ne _ _ _ _ (by decide)]; exact S.t6 (by simpa using g), fun g => by rw [eval_put_ne _ _ _ _ (by decide)]; exact S.t7 (by simpa using g), fun g => (S.t8 (by simpa using g)).imp fun b hb => ⟨by rw [eval_put_ne _ _ _ _ (by decide)]; exact hb.1, hb.2⟩⟩
    | 3, _, ho, hsi, hT =>
      obtain ⟨e1, e2⟩ := pick_of h3 ho
      have D1 : s 1 = true := list_pos hT (d := 1) (by decide)
      have D2 : s 2 = true := list_pos hT (d := 2) (by decide)
      have BW := S.before
      have bc := byte_co b i hb
      rw [hx] at bc
      refine step_val (v := .int .u8 (x.toNat : Nat)) (by simp only [execOp, e1, S.t1 D1, S.t2 D2]; go_simp) (hK _ _ ?_)
      rw [e2]
      exact ⟨S.off.put (by decide) _, S.before, fun g => by rw [eval_put_ne _ _ _ _ (by decide)]; exact S.t0 (by simpa using g), fun g => by rw [eval_put_ne _ _ _ _ (by decide)]; exact S.t1 (by simpa using g), fun g => by rw [eval_put_ne _ _ _ _ (by decide)]; exact S.t2 (by simpa using g), fun _ => (eval_put _ _ _ (by omega)).trans rfl, fun g => by rw [eval_put_ne _ _ _ _ (by decide)]; exact S.t4 (by simpa using g), fun g => by rw [eval_put_ne _ _ _ _ (by decide)]; exact S.t5 (by simpa using g), fun g => by rw [eval_put_ne _ _ _ _ (by decide)]; exact S.t6 (by simpa using g), fun g => by rw [eval_put_ne _ _ _ _ (by decide)]; exact S.t7 (by simpa using g), fun g => (S.t8 (by simpa using g)).imp fun b hb => ⟨by rw [eval_put_ne _ _ _ _ (by decide)]; exact hb.1, hb.2⟩⟩
    | 4, _, ho, hsi, hT =>
      obtain ⟨e1, e2⟩ := pick_of h4 ho
      have BW := S.before
      refine step_val (v := .string sq) (by simp only [execOp, e1, y4]; go_simp) (hK _ _ ?_)
      rw [e2]
      exact ⟨S.off.put (by decide) _, S.before, fun g => by rw [eval_put_ne _ _ _ _ (by decide)]; exact S.t0 (by simpa using g), fun g => by rw [eval_put_ne _ _ _ _ (by decide)]; exact S.t1 (by simpa using g), fun g => by rw [eval_put_ne _ _ _ _ (by decide)]; exact S.t2 (by simpa using g), fun g => by rw [eval_put_ne _ _ _ _ (by decide)]; exact S.t3 (by simpa using g), fun _ => (eval_put _ _ _ (by omega)).trans rfl, fun g => by rw [eval_put_ne _ _ _ _ (by decide)]; exact S.t5 (by simpa using g), fun g => by rw [eval_put_ne _ _ _ _ (by decide)]; exact S.t6 (by simpa using g), fun g => by rw [eval_put_ne _ _ _ _ (by decide)]; exact S.t7 (by simpa using g), fun g => (S.t8 (by simpa using g)).imp fun b hb => ⟨by rw [eval_put_ne _ _ _ _ (by decide)]; exact hb.1, hb.2⟩⟩
    | 5, _, ho, hsi, hT =>
      obtain ⟨e1, e2⟩ := pick_of h5 ho
      have BW := S.before
      refine step_val (v := .int .i64 (i : Nat)) (by simp only [execOp, e1, y7]; go_simp) (hK _ _ ?_)
      rw [e2]
      exact ⟨S.off.put (by decide) _, S.before, fun g => by rw [eval_put_ne _ _ _ _ (by decide)]; exact S.t0 (by simpa using g), fun g => by rw [eval_put_ne _ _ _ _ (by decide)]; exact S.t1 (by simpa using g), fun g => by rw [eval_put_ne _ _ _ _ (by decide)]; exact S.t2 (by simpa using g), fun g => by rw [eval_put_ne _ _ _ _ (by decide)]; exact S.t3 (by simpa using g), fun g => by rw [eval_put_ne _ _ _ _ (by decide)]; exact S.t4 (by simpa using g), fun _ => (eval_put _ _ _ (by omega)).trans rfl, fun g => by rw [eval_put_ne _ _ _ _ (by decide)]; exact S.t6 (by simpa using g), fun g => by rw [eval_put_ne _ _ _ _ (by decide)]; exact S.t7 (by simpa using g), fun g => (S.t8 (by simpa using g)).imp fun b hb => ⟨by rw [eval_put_ne _ _ _ _ (by decide)]; exact hb.1, hb.2⟩⟩
    | 6, _, ho, hsi, hT =>
      obtain ⟨e1, e2⟩ := pick_of h6 ho
      have D4 : s 4 = true := list_pos hT (d := 4) (by decide)
      have D5 : s 5 = true := list_pos hT (d := 5) (by decide)
      have BW := S.before
      have bc := byte_co sq i hs1
      rw [hy] at bc
      refine step_val (v := .int .u8 (y.toNat : Nat)) (by simp only [execOp, e1, S.t4 D4, S.t5 D5]; go_simp) (hK _ _ ?_)
      rw [e2]
      exact ⟨S.off.put (by decide) _, S.before, fun g => by rw [eval_put_ne _ _ _ _ (by decide)]; exact S.t0 (by simpa using g), fun g => by rw [eval_put_ne _ _ _ _ (by decide)]; exact S.t1 (by simpa using g), fun g => by rw [eval_put_ne _ _ _ _ (by decide)]; exact S.t2 (by simpa using g), fun g => by rw [eval_put_ne _ _ _ _ (by decide)]; exact S.t3 (by simpa using g), fun g => by rw [eval_put_ne _ _ _ _ (by decide)]; exact S.t4 (by simpa using g), fun g => by rw [eval_put_ne _ _ _ _ (by decide)]; exact S.t5 (by simpa using g), fun _ => (eval_put _ _ _ (by omega)).trans rfl, fun g => by rw [eval_put_ne _ _ _ _ (by decide)]; exact S.t7 (by simpa using g), fun g => (S.t8 (by simpa using g)).imp fun b hb => ⟨by rw [eval_put_ne _ _ _ _ (by decide)]; exact hb.1, hb.2⟩⟩
    | 7, _, ho, hsi, hT =>
      obtain ⟨e1, e2⟩ := pick_of h7 ho
      have D3 : s 3 = true := list_pos hT (d := 3) (by decide)
      have D6 : s 6 = true := list_pos hT (d := 6) (by decide)
      have BW := S.before
      refine step_val (v := .int .u8 (z.toNat : Nat)) (by simp only [execOp, e1, S.t3 D3, S.t6 D6]; go_simp; try exact hz) (hK _ _ ?_)
      rw [e2]
      exact ⟨S.off.put (by decide) _, S.before, fun g => by rw [eval_put_ne _ _ _ _ (by decide)]; exact S.t0 (by simpa using g), fun g => by rw [eval_put_ne _ _ _ _ (by decide)]; exact S.t1 (by simpa using g), fun g => by rw [eval_put_ne _ _ _ _ (by decide)]; exact S.t2 (by simpa using g), fun g => by rw [eval_put_ne _ _ _ _ (by decide)]; exact S.t3 (by simpa using g), fun g => by rw [eval_put_ne _ _ _ _ (by decide)]; exact S.t4 (by simpa using g), fun g => by rw [eval_put_ne _ _ _ _ (by decide)]; exact S.t5 (by simpa using g), fun g => by rw [eval_put_ne _ _ _ _ (by decide)]; exact S.t6 (by simpa using g), fun _ => (eval_put _ _ _ (by omega)).trans rfl, fun g => (S.t8 (by simpa using g)).imp fun b hb => ⟨by rw [eval_put_ne _ _ _ _ (by decide)]; exact hb.1, hb.2⟩⟩
    | 8, _, ho, hsi, hT =>
      obtain ⟨e1, e2⟩ := pick_of h8 ho
      have D7 : s 7 = true := list_pos hT (d := 7) (by decide)
      have BW := S.before
      have q30 : a.tmps[30]'(by omega) = .int .u8 (z.toNat : Nat) := by have := S.t7 D7; simpa [Act.eval, sz] using this
      refine step_to1 (w2 := w'.alloc (.cells #[.int .u8 (z.toNat : Nat)] 5)) (v := .slice (some ⟨w'.heap.size, 0, none⟩) 1 1) (by simp only [execOp, e1]; go_simp) (hK _ _ ?_)
      have BB := ba (Below.refl w'.heap.size w') (.cells #[.int .u8 (z.toNat : Nat)] 5)
      have FF := bld_new w' (.int .u8 (z.toNat : Nat)) 5
      rw [e2]
      exact ⟨S.off.put (by decide) _, bt BW BB, fun g => by rw [eval_put_ne _ _ _ _ (by decide)]; exact S.t0 (by simpa using g), fun g => by rw [eval_put_ne _ _ _ _ (by decide)]; exact S.t1 (by simpa using g), fun g => by rw [eval_put_ne _ _ _ _ (by decide)]; exact S.t2 (by simpa using g), fun g => by rw [eval_put_ne _ _ _ _ (by decide)]; exact S.t3 (by simpa using g), fun g => by rw [eval_put_ne _ _ _ _ (by decide)]; exact S.t4 (by simpa using g), fun g => by rw [eval_put_ne _ _ _ _ (by decide)]; exact S.t5 (by simpa using g), fun g => by rw [eval_put_ne _ _ _ _ (by decide)]; exact S.t6 (by simpa using g), fun g => by rw [eval_put_ne _ _ _ _ (by decide)]; exact S.t7 (by simpa using g), fun _ => ⟨_, (eval_put _ _ _ (by omega)).trans rfl, FF⟩⟩
    | _ + 9, il, _, _, _ => exact absurd il (by omega)
  · intro s a w' S hall
    have a0 := hall 0 (by omega)
    have a1 := hall 1 (by omega)
    have a2 := hall 2 (by omega)
    have a3 := hall 3 (by omega)
    have a4 := hall 4 (by omega)
    have a5 := hall 5 (by omega)
    have a6 := hall 6 (by omega)
    have a7 := hall 7 (by omega)
    have a8 := hall 8 (by omega)
    have e := off_norm _ (by intro d hd; simp at hd; omega) S.off
    obtain ⟨v8, M8, F8⟩ := S.t8 a8
    simp only [List.foldl, S.t0 a0, S.t1 a1, S.t2 a2, S.t3 a3, S.t4 a4, S.t5 a5, S.t6 a6, S.t7 a7, M8] at e
    rw [e]
    exact h _ _ S.before F8
/-- A string mixed with the sequence. -/
def mixv (b : ByteArray) (j : Nat) : BitVec 8 := Gal.co b.data.toList j ^^^ sqv j
def mixS (b : ByteArray) (n : Nat) : ByteArray := ⟨(Gal.coefs (mixv b) n).toArray⟩
theorem rmix_long (b : ByteArray) (n : Nat) (hn : b.size = n) (h : 65536 < n) (w : World) :
    Calls Try.prog 13 #[.string b] w fun e w' => e = .returned (.tuple #[.string ⟨#[]⟩, .int .i64 3]) ∧ w = w' := by
  have l1 : decide ((65536 : Int) < (n : Int)) = true := by simp; omega
  go_enter Try.func13, Try.ntmps13
  go_wp2_with fail
  go_ret2
  exact ⟨rfl, rfl⟩
set_option maxRecDepth 100000 in
set_option maxHeartbeats 2000000 in
theorem rmix_any (b : ByteArray) (n : Nat) (hn : b.size = n) (h : n ≤ 65536) (w : World) :
    Calls Try.prog 13 #[.string b] w fun e w' => e = .returned (.tuple #[.string (mixS b n), .int .i64 0]) ∧ Below w.heap.size w w' := by
  have l1 : decide ((65536 : Int) < (n : Int)) = false := by simp; omega
  have SQ := Lib.hid (fun w => rsequence_any n h w)
  have sX : (seqS n).size = n := coefs_size _ _
  have SC := Lib.hid (show ∀ j, j < n → Gal.co (seqS n).data.toList j = sqv j from fun j hj => by
    unfold seqS
    show Gal.co (Gal.coefs _ _) j = _
    rw [Gal.co_coefs, if_pos hj])
  obtain ⟨X, hX⟩ : ∃ X, seqS n = X := ⟨_, rfl⟩
  rw [hX] at SQ sX SC
  obtain ⟨i0, hi0, hz0, hz1, hz2⟩ := info_parts info_u8
  have HS := Lib.hid (show mixS b n = ⟨(Gal.coefs (mixv b) n).toArray⟩ from rfl)
  obtain ⟨R, hR⟩ : ∃ R, mixS b n = R := ⟨_, rfl⟩
  rw [hR] at HS ⊢
  clear hR hX
  have SX := Lib.hid sX
  have HN := Lib.hid hn
  go_enter Try.func13, Try.ntmps13
  go_wp2_with fail
  (with_reducible refine (SQ.out _).mono ?_)
  rintro e w1 ⟨rfl, h1⟩
  have B1 := Lib.hid h1
  clear h1 SQ sX
  go_wp2_with fail
  go_loopw [6, 7] (fun o x wr => ∃ i : Nat, i ≤ n ∧ x = .int .i64 (i : Nat) ∧ wr.ownsRow w.heap.size 5 1 o i (vals (mixv b) i) ∧ Below w.heap.size w wr) (fun _ x _ => n - (intOf x).toNat)
  case atStart => exact ⟨0, Nat.zero_le _, rfl, World.ownsRow_nil _ _ _ _, B1.out⟩
  case round =>
    obtain ⟨i, hi, rfl, hown, hB⟩ := hrel
    have HO := Lib.hid hown
    have SL := Lib.hid (own_slen hown)
    have B2 := Lib.hid hB
    clear hown hB B1
    by_cases hlt : i < n
    · have t3 : decide ((i : Int) < (n : Int)) = true := by simp; omega
      have NS := Lib.hid (vals_succ (mixv b) i)
      obtain ⟨x, hx⟩ : ∃ x, Gal.co b.data.toList i = x := ⟨_, rfl⟩
      obtain ⟨z, hz⟩ : ∃ z, mixv b i = z := ⟨_, rfl⟩
      rw [hz] at NS
      have HX := Lib.hid hx
      have HZ := Lib.hid (show bits .xor .u8 (x.toNat : Int) ((sqv i).toNat : Int) = (z.toNat : Int) by rw [xor8, ← hz, ← hx]; rfl)
      have HY := Lib.hid (SC.out i hlt)
      obtain ⟨y, hy⟩ : ∃ y, sqv i = y := ⟨_, rfl⟩
      rw [hy] at HZ HY
      clear hx hz hy
      go_upto_region 8 with fail
      refine mixRegion b X _ i x y z (by rw [HN.out]; exact hlt) (by rw [SX.out]; exact hlt) HX.out HY.out HZ.out (by kernel_rfl) rfl rfl rfl rfl rfl rfl rfl rfl rfl rfl rfl rfl rfl rfl ?_
      intro vq w6 B6 hvq
      obtain ⟨P, rfl, hPc⟩ := hvq.cells
      have BA := Lib.hid (bt B2.out B6)
      have HO1 := Lib.hid (own_below HO.out B6)
      have PC := Lib.hid hPc
      simp only [Act.put, List.setIfInBounds_toArray, List.set_cons_succ, List.set_cons_zero, List.drop_succ_cons, List.drop_zero]
      clear hPc B6 hvq HO B2 HX HY HZ
      go_wp2_with (at_builtin; go_loud (refine wpList_append_own _ rfl _ _ 53 rfl w.heap.size 5 i0 (.int .u8 0) 1 1 Try.underlying53 hi0 hz0 hz1 hz2 rfl (by decide) _ _ _ rfl HO1.out ⟨P, 0, none⟩ 1 1 [.int .u8 (z.toNat : Nat)] rfl rfl PC.out (by simp [Value.oneCell']) (by unfold maxLen; omega) (by omega) BA.out.size ?_); intro v' w9 hown2 hgrow _; obtain ⟨g', cap', rfl⟩ := ownsRow_succ hown2; have HO2 := Lib.hid hown2; have BW := Lib.hid (BA.out.grown hgrow BA.out.size (fun k e => own_block_ge HO1.out e)); clear hown2 hgrow)
      go_roundw
      case rel => exact ⟨i + 1, by omega, by go_num, by rw [NS.out]; exact HO2.out, BW.out⟩
      case measure => simp [intOf]; omega
    · have t3 : decide ((i : Int) < (n : Int)) = false := by simp; omega
      obtain rfl : i = n := by omega
      have CV := Lib.hid (own_back HO.out)
      have HS1 := HS.out
      clear SC SX HN
      go_wp2_with (simp only [CV.out])
      go_ret2
      exact ⟨by rw [HS1]; rfl, B2.out⟩
end Go.Proofs.Ytlfnglinalmpjaa
