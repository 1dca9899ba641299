/- The contract of viterbi's firstBits over this program. -/
import Derived.Test.YtgfihljledmaaaaVpBest
namespace Go.Proofs.Ytgfihljledmaaaa
open Go.RowKit
set_option linter.unusedVariables false

/-- A survivor in a block of its own. -/
def SNew (n0 : Nat) (v : Value) (w : World) : Prop := ∃ B, v = .pointer (some ⟨B, 0, none⟩) ∧ n0 ≤ B ∧ w.heap[B]? = some (.cells #[.int .i64 0, .int .i64 0] 68 (0, 0))
theorem SNew.mono {n0 : Nat} {v : Value} {w w' : World} (h : SNew n0 v w) (hb : Below w.heap.size w w') : SNew n0 v w' := by
  obtain ⟨B, h1, h0, h2⟩ := h
  exact ⟨B, h1, h0, (hb.block B (Array.getElem?_eq_some_iff.1 h2).1).trans h2⟩
theorem snew_new {n0 : Nat} (w : World) (h : n0 ≤ w.heap.size) : SNew n0 (.pointer (some ⟨w.heap.size, 0, none⟩)) (w.alloc (.cells #[.int .i64 0, .int .i64 0] 68)) := ⟨_, rfl, h, heap_alloc_new w _⟩
structure FbRegion (i H b n0 : Nat) (yy : Int) (A : Act) (w0 : World) (s : Nat → Bool) (a : Act) (w : World) : Prop where
  off : Off [10, 11, 12, 13, 5, 4] a A
  before : Below w0.heap.size w0 w
  t0 : s 0 = true → a.eval (.tmp 10) = .int .i64 (i : Nat)
  t1 : s 1 = true → a.eval (.tmp 11) = .pointer (some ⟨H, 0, none⟩)
  t2 : s 2 = true → a.eval (.tmp 12) = .pointer (some ⟨H, i * 2, none⟩)
  t3 : s 3 = true → a.eval (.tmp 13) = .agg #[.int .i64 (b : Nat), .int .i64 yy]
  t4 : s 4 = true → ∃ v4, a.eval (.tmp 5) = v4 ∧ SNew n0 v4 w
  t5 : s 5 = true → a.eval (.tmp 4) = .int .i64 (i : Nat)
set_option maxHeartbeats 2000000 in
set_option maxRecDepth 100000 in
theorem fbRegion {id : Nat} {l : List Oper} {A : Act} {w : World} {Q : Exit → Act → World → Prop} (i H b n0 : Nat) (yy : Int)
    (hi : i < 64) (lH : H < w.heap.size) (hB0 : n0 ≤ w.heap.size)
    (hb : w.cell? ⟨H, i * 2, none⟩ = some (.int .i64 (b : Nat))) (hyy : w.cell? ⟨H, i * 2 + 1, none⟩ = some (.int .i64 yy))
    (hB : tableH l.toArray 6 (fun i => match i with | 0 => [] | 1 => [] | 2 => [1] | 3 => [2] | 4 => [] | 5 => [0] | _ => []) (fun _ => []) = true)
    (h0 : pick l 0 = some (.move (.tmp 8), some 10))
    (h1 : pick l 1 = some (.nilCheck (.tmp 6), some 11))
    (h2 : pick l 2 = some (.indexAddr 69 (.tmp 11) (.tmp 8), some 12))
    (h3 : pick l 3 = some (.load 68 (.tmp 12), some 13))
    (h4 : pick l 4 = some (.alloc 68, some 5))
    (h5 : pick l 5 = some (.assign (.tmp 10), some 4))
    (hs : A.tmps.size = 21)
    (x6 : A.eval (.tmp 6) = .pointer (some ⟨H, 0, none⟩))
    (x8 : A.eval (.tmp 8) = .int .i64 (i : Nat))
    (h : ∀ v4 w1, Below w.heap.size w w1 → SNew n0 v4 w1 → wpList Try.prog l.toArray Q (l.drop 6) ((((((A.put (some 10) (.int .i64 (i : Nat))).put (some 11) (.pointer (some ⟨H, 0, none⟩))).put (some 12) (.pointer (some ⟨H, i * 2, none⟩))).put (some 13) (.agg #[.int .i64 (b : Nat), .int .i64 yy])).put (some 5) (v4)).put (some 4) (.int .i64 (i : Nat))) w1) :
    (Code.region id l.toArray true).wp Try.prog Q A w := by
  refine wp_region_head (by kernel_rfl) _ _ _ hB (FbRegion i H b n0 yy A w) ⟨Off.refl _ _, (Below.refl _ _).drew, by simp, by simp, by simp, by simp, by simp, by simp⟩ ?_ ?_
  · intro s a w' S i' o il ho hsi hT K hK
    have sz : a.tmps.size = 21 := by rw [S.off.2.1]; exact hs
    have y6 : a.eval (.tmp 6) = .pointer (some ⟨H, 0, none⟩) := by rw [S.off.eval (by decide)]; exact x6
    have y8 : a.eval (.tmp 8) = .int .i64 (i : Nat) := by rw [S.off.eval (by decide)]; exact x8
    match i', il, ho, hsi, hT with
    | 0, _, ho, hsi, hT =>
      obtain ⟨e1, e2⟩ := pick_of h0 ho
      have BW := S.before
      refine step_val (v := .int .i64 (i : Nat)) (by simp only [execOp, e1, y8]; go_simp) (hK _ _ ?_)
      rw [e2]
      exact ⟨S.off.put (by decide) _, S.before, fun _ => (eval_put _ _ _ (by omega)).trans rfl, fun g => by rw [eval_put_ne _ _ _ _ (by decide)]; exact S.t1 (by simpa using g), fun g => by rw [eval_put_ne _ _ _ _ (by decide)]; exact S.t2 (by simpa using g), fun g => by rw [eval_put_ne _ _ _ _ (by decide)]; exact S.t3 (by simpa using g), fun g => (S.t4 (by simpa using g)).imp fun b hb => ⟨by rw [eval_put_ne _ _ _ _ (by decide)]; exact hb.1, hb.2⟩, fun g => by rw [eval_put_ne _ _ _ _ (by decide)]; exact S.t5 (by simpa using g)⟩
    | 1, _, ho, hsi, hT =>
      obtain ⟨e1, e2⟩ := pick_of h1 ho
      have BW := S.before
      refine step_val (v := .pointer (some ⟨H, 0, none⟩)) (by simp only [execOp, e1, y6]; go_simp) (hK _ _ ?_)
      rw [e2]
      exact ⟨S.off.put (by decide) _, S.before, fun g => by rw [eval_put_ne _ _ _ _ (by decide)]; exact S.t0 (by simpa using g), fun _ => (eval_put _ _ _ (by omega)).trans rfl, fun g => by rw [eval_put_ne _ _ _ _ (by decide)]; exact S.t2 (by simpa using g), fun g => by rw [eval_put_ne _ _ _ _ (by decide)]; exact S.t3 (by simpa using g), fun g => (S.t4 (by simpa using g)).imp fun b hb => ⟨by rw [eval_put_ne _ _ _ _ (by decide)]; exact hb.1, hb.2⟩, fun g => by rw [eval_put_ne _ _ _ _ (by decide)]; exact S.t5 (by simpa using g)⟩
    | 2, _, ho, hsi, hT =>
      obtain ⟨e1, e2⟩ := pick_of h2 ho
      have D1 : s 1 = true := list_pos hT (d := 1) (by decide)
      have BW := S.before
      refine step_val (v := .pointer (some ⟨H, i * 2, none⟩)) (by simp only [execOp, e1, y8, S.t1 D1]; go_simp; intro h; omega) (hK _ _ ?_)
      rw [e2]
      exact ⟨S.off.put (by decide) _, S.before, fun g => by rw [eval_put_ne _ _ _ _ (by decide)]; exact S.t0 (by simpa using g), fun g => by rw [eval_put_ne _ _ _ _ (by decide)]; exact S.t1 (by simpa using g), fun _ => (eval_put _ _ _ (by omega)).trans rfl, fun g => by rw [eval_put_ne _ _ _ _ (by decide)]; exact S.t3 (by simpa using g), fun g => (S.t4 (by simpa using g)).imp fun b hb => ⟨by rw [eval_put_ne _ _ _ _ (by decide)]; exact hb.1, hb.2⟩, fun g => by rw [eval_put_ne _ _ _ _ (by decide)]; exact S.t5 (by simpa using g)⟩
    | 3, _, ho, hsi, hT =>
      obtain ⟨e1, e2⟩ := pick_of h3 ho
      have D2 : s 2 = true := list_pos hT (d := 2) (by decide)
      have BW := S.before
      refine wp_load_mid 68 (.tmp 12) e1 H (i * 2) (S.t2 D2) [.int .i64 (b : Nat), .int .i64 yy] _ (pair_range ((BW.cell (p := ⟨H, i * 2, none⟩) lH).trans hb) ((BW.cell (p := ⟨H, i * 2 + 1, none⟩) lH).trans hyy)) Try.underlying68 rfl iSv (hK _ _ ?_)
      rw [e2]
      exact ⟨S.off.put (by decide) _, S.before, fun g => by rw [eval_put_ne _ _ _ _ (by decide)]; exact S.t0 (by simpa using g), fun g => by rw [eval_put_ne _ _ _ _ (by decide)]; exact S.t1 (by simpa using g), fun g => by rw [eval_put_ne _ _ _ _ (by decide)]; exact S.t2 (by simpa using g), fun _ => (eval_put _ _ _ (by omega)).trans rfl, fun g => (S.t4 (by simpa using g)).imp fun b hb => ⟨by rw [eval_put_ne _ _ _ _ (by decide)]; exact hb.1, hb.2⟩, fun g => by rw [eval_put_ne _ _ _ _ (by decide)]; exact S.t5 (by simpa using g)⟩
    | 4, _, ho, hsi, hT =>
      obtain ⟨e1, e2⟩ := pick_of h4 ho
      have BW := S.before
      refine step_to1 (w2 := w'.alloc (.cells #[.int .i64 0, .int .i64 0] 68)) (v := .pointer (some ⟨w'.heap.size, 0, none⟩)) (by simp only [execOp, e1]; go_simp) (hK _ _ ?_)
      have BB := ba (Below.refl w'.heap.size w') (.cells #[.int .i64 0, .int .i64 0] 68)
      have FF := snew_new w' (Nat.le_trans hB0 BW.size)
      rw [e2]
      exact ⟨S.off.put (by decide) _, bt BW BB, fun g => by rw [eval_put_ne _ _ _ _ (by decide)]; exact S.t0 (by simpa using g), fun g => by rw [eval_put_ne _ _ _ _ (by decide)]; exact S.t1 (by simpa using g), fun g => by rw [eval_put_ne _ _ _ _ (by decide)]; exact S.t2 (by simpa using g), fun g => by rw [eval_put_ne _ _ _ _ (by decide)]; exact S.t3 (by simpa using g), fun _ => ⟨_, (eval_put _ _ _ (by omega)).trans rfl, FF⟩, fun g => by rw [eval_put_ne _ _ _ _ (by decide)]; exact S.t5 (by simpa using g)⟩
    | 5, _, ho, hsi, hT =>
      obtain ⟨e1, e2⟩ := pick_of h5 ho
      have D0 : s 0 = true := list_pos hT (d := 0) (by decide)
      have BW := S.before
      refine step_val (v := .int .i64 (i : Nat)) (by simp only [execOp, e1, S.t0 D0]; go_simp) (hK _ _ ?_)
      rw [e2]
      exact ⟨S.off.put (by decide) _, S.before, fun g => by rw [eval_put_ne _ _ _ _ (by decide)]; exact S.t0 (by simpa using g), fun g => by rw [eval_put_ne _ _ _ _ (by decide)]; exact S.t1 (by simpa using g), fun g => by rw [eval_put_ne _ _ _ _ (by decide)]; exact S.t2 (by simpa using g), fun g => by rw [eval_put_ne _ _ _ _ (by decide)]; exact S.t3 (by simpa using g), fun g => (S.t4 (by simpa using g)).imp fun b hb => ⟨by rw [eval_put_ne _ _ _ _ (by decide)]; exact hb.1, hb.2⟩, fun _ => (eval_put _ _ _ (by omega)).trans rfl⟩
    | _ + 6, il, _, _, _ => exact absurd il (by omega)
  · intro s a w' S hall
    have a0 := hall 0 (by omega)
    have a1 := hall 1 (by omega)
    have a2 := hall 2 (by omega)
    have a3 := hall 3 (by omega)
    have a4 := hall 4 (by omega)
    have a5 := hall 5 (by omega)
    have e := off_norm _ (by intro d hd; simp at hd; omega) S.off
    obtain ⟨v4, M4, F4⟩ := S.t4 a4
    simp only [List.foldl, S.t0 a0, S.t1 a1, S.t2 a2, S.t3 a3, M4, S.t5 a5] at e
    rw [e]
    exact h _ _ S.before F4
theorem zeroBits (w : World) : Sem.run Try.prog (zeroValue 74) w = .ok (.agg (arrK .u8 64 (fun _ => 0))) w := by rw [arrK_zero]; kernel_rfl
theorem iBits (f : Nat → Nat) : (Try.prog.info? 74).map (·.size) = some (arrK .u8 64 f).size := by rw [arrK_size]; kernel_rfl
/-- The first i bits. -/
def bitK (B : Nat → Nat) (i c : Nat) : Nat := if c < i then B c else 0
set_option maxRecDepth 100000 in
set_option maxHeartbeats 1000000 in
theorem firstBits_any (H : Nat) (B : Nat → Nat) (Y : Nat → Int) (w : World) (lH : H < w.heap.size) (hB2 : ∀ t, t < 64 → B t < 2) (c0 : ∀ t, t < 64 → w.cell? ⟨H, t * 2, none⟩ = some (.int .i64 (B t : Nat))) (c1 : ∀ t, t < 64 → w.cell? ⟨H, t * 2 + 1, none⟩ = some (.int .i64 (Y t))) :
    Calls Try.prog 36 #[.pointer (some ⟨H, 0, none⟩)] w fun e w' => e = .returned (.agg (arrK .u8 64 B)) ∧ Below w.heap.size w w' := by
  have R0 := RowK.new w .u8 64 74 (fun _ => 0)
  have B0 := ba (Below.refl w.heap.size w) (.cells (arrK .u8 64 (fun _ => 0)) 74)
  have R1 := RowK.new (w.alloc (.cells (arrK .u8 64 (fun _ => 0)) 74)) .u8 64 74 (fun _ => 0)
  have B1 := ba B0 (.cells (arrK .u8 64 (fun _ => 0)) 74)
  have R2 := RowK.alloc R0 (.cells (arrK .u8 64 (fun _ => 0)) 74)
  rw [World.size_alloc] at R1
  have Z := Lib.hid (fun w => zeroBits w)
  have HR1 := Lib.hid (R1.congr (g := bitK B 0) (fun i _ => by unfold bitK; rw [if_neg (by omega)]))
  have HR2 := Lib.hid R2
  have HB1 := Lib.hid B1
  have HLH := Lib.hid lH
  have HC0 := Lib.hid c0
  have HC1 := Lib.hid c1
  have HB2 := Lib.hid hB2
  clear R0 B0 R1 B1 R2 c0 c1 lH hB2
  rw [show arrK .u8 64 (fun _ => 0) = #[.int .u8 0, .int .u8 0, .int .u8 0, .int .u8 0, .int .u8 0, .int .u8 0, .int .u8 0, .int .u8 0, .int .u8 0, .int .u8 0, .int .u8 0, .int .u8 0, .int .u8 0, .int .u8 0, .int .u8 0, .int .u8 0, .int .u8 0, .int .u8 0, .int .u8 0, .int .u8 0, .int .u8 0, .int .u8 0, .int .u8 0, .int .u8 0, .int .u8 0, .int .u8 0, .int .u8 0, .int .u8 0, .int .u8 0, .int .u8 0, .int .u8 0, .int .u8 0, .int .u8 0, .int .u8 0, .int .u8 0, .int .u8 0, .int .u8 0, .int .u8 0, .int .u8 0, .int .u8 0, .int .u8 0, .int .u8 0, .int .u8 0, .int .u8 0, .int .u8 0, .int .u8 0, .int .u8 0, .int .u8 0, .int .u8 0, .int .u8 0, .int .u8 0, .int .u8 0, .int .u8 0, .int .u8 0, .int .u8 0, .int .u8 0, .int .u8 0, .int .u8 0, .int .u8 0, .int .u8 0, .int .u8 0, .int .u8 0, .int .u8 0, .int .u8 0] from by kernel_rfl] at HR1 HR2 HB1
  clear Z
  go_enter Try.func36, Try.ntmps36
  go_wp2_with fail
  go_loopw [8] (fun x wr => ∃ i : Nat, i ≤ 64 ∧ x = .int .i64 (i : Nat) ∧ RowK .u8 64 74 wr (w.heap.size + 1) (bitK B i) ∧ RowK .u8 64 74 wr w.heap.size (fun _ => 0) ∧ Below w.heap.size w wr) (fun x _ => 64 - (intOf x).toNat)
  case atStart => exact ⟨0, Nat.zero_le _, rfl, HR1.out, HR2.out, HB1.out⟩
  case round =>
    obtain ⟨i, hi, rfl, hR, hZ, hB⟩ := hrel
    have HR := Lib.hid hR
    have HZ := Lib.hid hZ
    have HB := Lib.hid hB
    clear hR hZ hB HR1 HR2 HB1
    by_cases hlt : i < 64
    · have t1 : decide ((i : Int) < 64) = true := by simp; omega
      have q0 := (HB.out.cell (p := ⟨H, i * 2, none⟩) HLH.out).trans (HC0.out i hlt)
      have q1 := (HB.out.cell (p := ⟨H, i * 2 + 1, none⟩) HLH.out).trans (HC1.out i hlt)
      have b2 := HB2.out i hlt
      obtain ⟨b, hb⟩ : ∃ b, B i = b := ⟨_, rfl⟩
      have Hb := Lib.hid hb
      rw [hb] at q0 b2
      clear hb
      have o1 : (i : Int) < 64 := by omega
      go_upto_region 4 with fail
      refine fbRegion i H b wr.heap.size (Y i) hlt (Nat.lt_of_lt_of_le HLH.out HB.out.size) (Nat.le_refl _) q0 q1 (by kernel_rfl) rfl rfl rfl rfl rfl rfl rfl rfl rfl ?_
      rintro v w1 D1 ⟨N, rfl, hN, hNh⟩
      simp only [Act.put, List.setIfInBounds_toArray, List.set_cons_succ, List.set_cons_zero, List.drop_succ_cons, List.drop_zero]
      have C1 := HR.out.below D1
      have Z1 := HZ.out.below D1
      have E1 := bt HB.out D1
      have lT := HR.out.lt
      have r0 := cell_of_row w1 N 0 _ _ _ hNh
      have r1 := cell_of_row w1 N 1 _ _ _ hNh
      rw [show (#[Value.int .i64 0, Value.int .i64 0] : Array Value)[0]? = some (.int .i64 0) from rfl] at r0
      rw [show (#[Value.int .i64 0, Value.int .i64 0] : Array Value)[1]? = some (.int .i64 0) from rfl] at r1
      have z0 : w1.frozen? ⟨N, 0, none⟩ = false := by unfold World.frozen?; rw [hNh]; simp
      have z1 : w1.frozen? ⟨N, 1, none⟩ = false := by unfold World.frozen?; rw [hNh]; simp
      have hS := set_two (.int .i64 (b : Nat)) (.int .i64 (Y i)) hNh
      have r2 := cell_of_row _ N 0 _ _ _ hS
      rw [show (#[Value.int .i64 (b : Nat), Value.int .i64 (Y i)] : Array Value)[0]? = some (.int .i64 (b : Nat)) from rfl] at r2
      have neT : w.heap.size + 1 ≠ N := by omega
      have neR : w.heap.size ≠ N := by omega
      have C2 := (C1.setOther (c := N) (i := 0) neT (.int .i64 (b : Nat))).setOther (c := N) (i := 1) neT (.int .i64 (Y i))
      have Z2 := (Z1.setOther (c := N) (i := 0) neR (.int .i64 (b : Nat))).setOther (c := N) (i := 1) neR (.int .i64 (Y i))
      have lW := HB.out.size
      have E2 := (E1.setCell (p := ⟨N, 0, none⟩) (show w.heap.size ≤ N by omega) (.int .i64 (b : Nat))).setCell (p := ⟨N, 1, none⟩) (show w.heap.size ≤ N by omega) (.int .i64 (Y i))
      have m0 := C2.cell hlt
      have z2 := C2.frozen i
      have C3 := Lib.hid ((C2.set i b).congr (g := bitK B (i + 1)) (fun c _ => by
        show (if c = i then b else bitK B i c) = bitK B (i + 1) c
        unfold bitK
        by_cases e : c = i
        · subst e
          rw [if_pos rfl, if_pos (show c < c + 1 by omega)]
          exact Hb.out.symm
        · rw [if_neg e]
          by_cases g : c < i
          · rw [if_pos g, if_pos (show c < i + 1 by omega)]
          · rw [if_neg g, if_neg (show ¬ c < i + 1 by omega)]))
      have Z3 := Lib.hid (Z2.setOther (c := w.heap.size + 1) (i := i) (by omega) (.int .u8 (b : Nat)))
      have E3 := Lib.hid (E2.setCell (p := ⟨w.heap.size + 1, i, none⟩) (Nat.le_succ _) (.int .u8 (b : Nat)))
      have bw : IntKind.u8.wrap (b : Int) = (b : Int) := by rw [IntKind.wrap_u8]; omega
      clear C1 Z1 E1 D1 C2 Z2 E2 HR HZ HB hNh hS lT lW neT neR hN q0 q1
      go_wp2_with fail
      go_roundw
      case rel => exact ⟨i + 1, by omega, by go_num, C3.out, Z3.out, E3.out⟩
      case measure => simp [intOf]; omega
    · have t1 : decide ((i : Int) < 64) = false := by simp; omega
      have C9 := Lib.hid (HR.out.congr (g := B) (fun c hc => by unfold bitK; rw [if_pos (by omega)]))
      clear HR
      go_upto_region 7 with fail
      refine wp_region_lit ?_
      refine wpList_load_row rfl 74 (.tmp 3) rfl (w.heap.size + 1) rfl _ _ _ _ C9.out Try.underlying74 rfl (iBits _) ?_
      simp only [Act.put, List.setIfInBounds_toArray, List.set_cons_succ, List.set_cons_zero]
      refine wpList_store_row rfl 74 (.tmp 2) (.tmp 20) rfl w.heap.size (arrK .u8 64 B) rfl rfl _ _ HZ.out (iBits _) (by rw [arrK_size, arrK_size]) (arrK_one _ _ _) ?_
      refine wpList_nil ?_
      simp only [Exit.then]
      rename (∀ (a : Act) (w : World), Code.wp _ Code.ret _ a w → _) => hK
      apply hK
      apply wp_ret
      exact bodyPost_ret (v := .agg (arrK .u8 64 B)) (results_cell_row Try.results36 _ _ w.heap.size 74 (arrK .u8 64 B) (0, 0) _ rfl (setRow_heap _ _ _ _ _ _ HZ.out) Try.underlying74 rfl (iBits _)) rfl ⟨rfl, below_setRow HB.out (Nat.le_refl _) _⟩
end Go.Proofs.Ytgfihljledmaaaa
