/- The contracts of block's decoded, newWord, Decode over this program. -/
import Derived.Test.YtlpjhmafplljaaaGreatDoorBlkCo
namespace Go.Proofs.YtlpjhmafplljaaaGreatDoor
open Go.RowKit
set_option linter.unusedVariables false

structure DdRegion (bx bc b cb eb ce n g cc k : Nat) (str : ByteArray) (A : Act) (w0 : World) (s : Nat → Bool) (a : Act) (w : World) : Prop where
  off : Off [31, 32, 33, 34, 35] a A
  before : Below w0.heap.size w0 w
  t0 : s 0 = true → a.eval (.tmp 31) = .agg #[.slice (some ⟨g, 0, none⟩) n cc, .slice none 0 0]
  t1 : s 1 = true → a.eval (.tmp 32) = .string str
  t2 : s 2 = true → a.eval (.tmp 33) = .agg #[.slice (some ⟨b, 0, none⟩) n cb, .slice (some ⟨eb, 0, none⟩) n ce]
  t3 : s 3 = true → a.eval (.tmp 34) = .agg #[.slice (some ⟨g, 0, none⟩) n cc, .slice none 0 0]
  t4 : s 4 = true → a.eval (.tmp 35) = .int .i64 (k : Nat)
set_option maxHeartbeats 2000000 in
set_option maxRecDepth 100000 in
theorem ddRegion {id : Nat} {l : List Oper} {A : Act} {w : World} {Q : Exit → Act → World → Prop} (bx bc b cb eb ce n g cc k : Nat) (str : ByteArray)
    (hbx : bx < w.heap.size) (hc0 : w.cell? ⟨bx, 0, none⟩ = some (.slice (some ⟨b, 0, none⟩) n cb)) (hc1 : w.cell? ⟨bx, 1, none⟩ = some (.slice (some ⟨eb, 0, none⟩) n ce)) (hbc : bc < w.heap.size) (hd0 : w.cell? ⟨bc, 0, none⟩ = some (.slice (some ⟨g, 0, none⟩) n cc)) (hd1 : w.cell? ⟨bc, 1, none⟩ = some (.slice none 0 0)) (hD : ∀ w', Below w.heap.size w w' → Calls Tryz.prog 49 #[.agg #[.slice (some ⟨g, 0, none⟩) n cc, .slice none 0 0]] w' fun e w2 => e = .returned (.string str) ∧ Below w'.heap.size w' w2) (hF : ∀ w', Below w.heap.size w w' → Calls Tryz.prog 51 #[.agg #[.slice (some ⟨b, 0, none⟩) n cb, .slice (some ⟨eb, 0, none⟩) n ce], .agg #[.slice (some ⟨g, 0, none⟩) n cc, .slice none 0 0]] w' fun e w2 => e = .returned (.int .i64 (k : Nat)) ∧ Below w'.heap.size w' w2)
    (hB : tableH l.toArray 5 (fun i => match i with | 0 => [] | 1 => [0] | 2 => [] | 3 => [] | 4 => [2, 3] | _ => []) (fun _ => []) = true)
    (h0 : pick l 0 = some (.load 53 (.tmp 7), some 31))
    (h1 : pick l 1 = some (.call { callee := .value (.func 49), args := #[.tmp 31], argTypes := #[53] }, some 32))
    (h2 : pick l 2 = some (.load 53 (.tmp 1), some 33))
    (h3 : pick l 3 = some (.load 53 (.tmp 7), some 34))
    (h4 : pick l 4 = some (.call { callee := .value (.func 51), args := #[.tmp 33, .tmp 34], argTypes := #[53, 53] }, some 35))
    (hs : A.tmps.size = 37)
    (x1 : A.eval (.tmp 1) = .pointer (some ⟨bx, 0, none⟩))
    (x7 : A.eval (.tmp 7) = .pointer (some ⟨bc, 0, none⟩))
    (h : ∀ w1, Below w.heap.size w w1 → wpList Tryz.prog l.toArray Q (l.drop 5) (((((A.put (some 31) (.agg #[.slice (some ⟨g, 0, none⟩) n cc, .slice none 0 0])).put (some 32) (.string str)).put (some 33) (.agg #[.slice (some ⟨b, 0, none⟩) n cb, .slice (some ⟨eb, 0, none⟩) n ce])).put (some 34) (.agg #[.slice (some ⟨g, 0, none⟩) n cc, .slice none 0 0])).put (some 35) (.int .i64 (k : Nat))) w1) :
    (Code.region id l.toArray true).wp Tryz.prog Q A w := by
  refine wp_region_head (by kernel_rfl) _ _ _ hB (DdRegion bx bc b cb eb ce n g cc k str A w) ⟨Off.refl _ _, (Below.refl _ _).drew, by simp, by simp, by simp, by simp, by simp⟩ ?_ ?_
  · intro s a w' S i' o il ho hsi hT K hK
    have sz : a.tmps.size = 37 := by rw [S.off.2.1]; exact hs
    have y1 : a.eval (.tmp 1) = .pointer (some ⟨bx, 0, none⟩) := by rw [S.off.eval (by decide)]; exact x1
    have y7 : a.eval (.tmp 7) = .pointer (some ⟨bc, 0, none⟩) := by rw [S.off.eval (by decide)]; exact x7
    match i', il, ho, hsi, hT with
    | 0, _, ho, hsi, hT =>
      obtain ⟨e1, e2⟩ := pick_of h0 ho
      have BW := S.before
      have cl0 := (BW.cell (p := ⟨bc, 0, none⟩) hbc).trans hd0
      have cl1 := (BW.cell (p := ⟨bc, 1, none⟩) hbc).trans hd1
      refine step_val (v := .agg #[.slice (some ⟨g, 0, none⟩) n cc, .slice none 0 0]) (by simp only [execOp, e1, y7]; go_simp) (hK _ _ ?_)
      rw [e2]
      exact ⟨S.off.put (by decide) _, S.before, fun _ => (eval_put _ _ _ (by omega)).trans rfl, kp S.t1, kp S.t2, kp S.t3, kp S.t4⟩
    | 1, _, ho, hsi, hT =>
      obtain ⟨e1, e2⟩ := pick_of h1 ho
      have D0 : s 0 = true := list_pos hT (d := 0) (by decide)
      have BW := S.before
      refine step_call 49 (fun args w => by go_simp) _ _ e1 #[.agg #[.slice (some ⟨g, 0, none⟩) n cc, .slice none 0 0]] (by simp only [List.map_toArray, List.map_cons, List.map_nil, S.t0 D0]) ((hD _ BW).mono ?_)
      rintro e w2 ⟨rfl, BB⟩
      refine ⟨_, rfl, hK _ _ ?_⟩
      rw [e2]
      exact ⟨S.off.put (by decide) _, bt BW BB, kp S.t0, fun _ => (eval_put _ _ _ (by omega)).trans rfl, kp S.t2, kp S.t3, kp S.t4⟩
    | 2, _, ho, hsi, hT =>
      obtain ⟨e1, e2⟩ := pick_of h2 ho
      have BW := S.before
      have cl0 := (BW.cell (p := ⟨bx, 0, none⟩) hbx).trans hc0
      have cl1 := (BW.cell (p := ⟨bx, 1, none⟩) hbx).trans hc1
      refine step_val (v := .agg #[.slice (some ⟨b, 0, none⟩) n cb, .slice (some ⟨eb, 0, none⟩) n ce]) (by simp only [execOp, e1, y1]; go_simp) (hK _ _ ?_)
      rw [e2]
      exact ⟨S.off.put (by decide) _, S.before, kp S.t0, kp S.t1, fun _ => (eval_put _ _ _ (by omega)).trans rfl, kp S.t3, kp S.t4⟩
    | 3, _, ho, hsi, hT =>
      obtain ⟨e1, e2⟩ := pick_of h3 ho
      have BW := S.before
      have cl0 := (BW.cell (p := ⟨bc, 0, none⟩) hbc).trans hd0
      have cl1 := (BW.cell (p := ⟨bc, 1, none⟩) hbc).trans hd1
      refine step_val (v := .agg #[.slice (some ⟨g, 0, none⟩) n cc, .slice none 0 0]) (by simp only [execOp, e1, y7]; go_simp) (hK _ _ ?_)
      rw [e2]
      exact ⟨S.off.put (by decide) _, S.before, kp S.t0, kp S.t1, kp S.t2, fun _ => (eval_put _ _ _ (by omega)).trans rfl, kp S.t4⟩
    | 4, _, ho, hsi, hT =>
      obtain ⟨e1, e2⟩ := pick_of h4 ho
      have D2 : s 2 = true := list_pos hT (d := 2) (by decide)
      have D3 : s 3 = true := list_pos hT (d := 3) (by decide)
      have BW := S.before
      refine step_call 51 (fun args w => by go_simp) _ _ e1 #[.agg #[.slice (some ⟨b, 0, none⟩) n cb, .slice (some ⟨eb, 0, none⟩) n ce], .agg #[.slice (some ⟨g, 0, none⟩) n cc, .slice none 0 0]] (by simp only [List.map_toArray, List.map_cons, List.map_nil, S.t2 D2, S.t3 D3]) ((hF _ BW).mono ?_)
      rintro e w2 ⟨rfl, BB⟩
      refine ⟨_, rfl, hK _ _ ?_⟩
      rw [e2]
      exact ⟨S.off.put (by decide) _, bt BW BB, kp S.t0, kp S.t1, kp S.t2, kp S.t3, fun _ => (eval_put _ _ _ (by omega)).trans rfl⟩
    | _ + 5, il, _, _, _ => exact absurd il (by omega)
  · intro s a w' S hall
    have a0 := hall 0 (by omega)
    have a1 := hall 1 (by omega)
    have a2 := hall 2 (by omega)
    have a3 := hall 3 (by omega)
    have a4 := hall 4 (by omega)
    have e := off_norm _ (by intro d hd; simp at hd; omega) S.off
    simp only [List.foldl, S.t0 a0, S.t1 a1, S.t2 a2, S.t3 a3, S.t4 a4] at e
    rw [e]
    exact h _ S.before
theorem cnt_congr {P Q : Nat → Bool} {n : Nat} (h : ∀ i, i < n → P i = Q i) : Blk.cnt P n = Blk.cnt Q n := by
  unfold Blk.cnt
  congr 1
  exact List.filter_congr (fun i hi => h i (List.mem_range.1 hi))
theorem dif_coefs (f : Nat → BitVec 8) (c : List UInt8) (n : Nat) : (Blk.dif (Gal.coefs f n) c).length = Blk.cnt (fun i => decide (f i ≠ Gal.co c i)) n := by
  rw [Blk.dif_cnt, Gal.coefs_length]
  refine cnt_congr (fun i hi => ?_)
  unfold Blk.ne2
  rw [Gal.co_coefs, if_pos hi]
/-- What decoded and Decode do. -/
def DecP (bl : List UInt8) (fs : List Nat) (w : World) (e : Ending) (w' : World) : Prop :=
  ∃ (o : List UInt8) (k x : Int), e = .returned (.tuple #[.string ⟨o.toArray⟩, .int .i64 k, .int .i64 x]) ∧ Blk.Dec bl fs o k x ∧ Below w.heap.size w w'
theorem near_self {bl : List UInt8} {fs : List Nat} (h : Blk.Code bl) (hf : fs.length ≤ 8) : Blk.Near bl fs bl := by
  refine ⟨h, rfl, ?_⟩
  have : Blk.besides bl bl fs = 0 := by
    unfold Blk.besides
    rw [List.length_eq_zero_iff, List.filter_eq_nil_iff]
    intro i _
    simp
  omega
theorem dif_self (bl : List UInt8) : (Blk.dif bl bl).length = 0 := by
  unfold Blk.dif
  rw [List.length_eq_zero_iff, List.filter_eq_nil_iff]
  intro i _
  simp
set_option maxRecDepth 100000 in
set_option maxHeartbeats 1000000 in
theorem decoded_any (b cb eb ce n : Nat) (f : Nat → BitVec 8) (er : Nat → Bool) (h9 : 9 ≤ n) (hn : n ≤ 231) (w : World) (H : Wd w b cb eb ce n f er) :
    Calls Tryz.prog 29 #[.agg #[.slice (some ⟨b, 0, none⟩) n cb, .slice (some ⟨eb, 0, none⟩) n ce]] w (DecP (Gal.coefs f n) (Blk.ers er n) w) := by
  have hbl := Gal.coefs_length f n
  have HA := Lib.hid (H.alloc (.cells #[.slice (some ⟨b, 0, none⟩) n cb, .slice (some ⟨eb, 0, none⟩) n ce] 53))
  have ER := Lib.hid (erasures_any b cb eb ce n f er (by omega) _ HA.out)
  have cx0 := Lib.hid (show (w.alloc (.cells #[.slice (some ⟨b, 0, none⟩) n cb, .slice (some ⟨eb, 0, none⟩) n ce] 53)).cell? ⟨w.heap.size, 0, none⟩ = some (.slice (some ⟨b, 0, none⟩) n cb) from World.cell?_alloc_new w _ _ 0)
  have cx1 := Lib.hid (show (w.alloc (.cells #[.slice (some ⟨b, 0, none⟩) n cb, .slice (some ⟨eb, 0, none⟩) n ce] 53)).cell? ⟨w.heap.size, 1, none⟩ = some (.slice (some ⟨eb, 0, none⟩) n ce) from World.cell?_alloc_new w _ _ 1)
  have lx0 := Lib.hid (show w.heap.size < (w.alloc (.cells #[.slice (some ⟨b, 0, none⟩) n cb, .slice (some ⟨eb, 0, none⟩) n ce] 53)).heap.size by rw [World.size_alloc]; omega)
  have B0 := Lib.hid (ba (Below.refl w.heap.size w) (.cells #[.slice (some ⟨b, 0, none⟩) n cb, .slice (some ⟨eb, 0, none⟩) n ce] 53))
  have fe : Blk.cnt er n = (Blk.ers er n).length := rfl
  rw [fe] at ER
  have fn : (Blk.ers er n).length ≤ n := by
    have := List.length_filter_le er (List.range n)
    unfold Blk.ers
    simpa using this
  have NOF := Lib.hid (show 8 < (Blk.ers er n).length → ∀ w', Below w.heap.size w w' → DecP (Gal.coefs f n) (Blk.ers er n) w (.returned (.tuple #[.string ⟨#[]⟩, .int .i64 0, .int .i64 50])) w' from fun h w' hB => ⟨[], 0, 50, rfl, .inr ⟨fun c hc => by have := hc.2.2; omega, rfl, rfl, rfl⟩, hB⟩)
  have NOE := Lib.hid (show (Blk.ers er n).length ≤ 8 → (∀ c, Blk.Near (Gal.coefs f n) (Blk.ers er n) c → (8 - (Blk.ers er n).length) / 2 + 1 ≤ Blk.besides (Gal.coefs f n) c (Blk.ers er n)) → ∀ w', Below w.heap.size w w' → DecP (Gal.coefs f n) (Blk.ers er n) w (.returned (.tuple #[.string ⟨#[]⟩, .int .i64 0, .int .i64 50])) w' from fun h0 h w' hB => ⟨[], 0, 50, rfl, .inr ⟨fun c hc => by have := hc.2.2; have := h c hc; omega, rfl, rfl, rfl⟩, hB⟩)
  have CORR := Lib.hid (fun q (hq : (Blk.ers er n).length + 2 * q ≤ 8) w' (hB : Below w.heap.size w w') => corrected_any b cb eb ce n q f er h9 hn hq w' (H.below hB))
  obtain ⟨F, hF⟩ : ∃ F, (Blk.ers er n).length = F := ⟨_, rfl⟩
  rw [hF] at ER NOF NOE CORR fn
  have HF := Lib.hid hF
  have HH := Lib.hid H
  clear H hF fe hbl
  go_enter Tryz.func29, Tryz.ntmps29
  go_wp2_with fail
  (with_reducible refine ER.out.mono ?_)
  rintro e w1 ⟨rfl, h1⟩
  have B1 := Lib.hid (bt B0.out h1)
  have c10 := Lib.hid ((h1.cell (p := ⟨w.heap.size, 0, none⟩) lx0.out).trans cx0.out)
  have c11 := Lib.hid ((h1.cell (p := ⟨w.heap.size, 1, none⟩) lx0.out).trans cx1.out)
  have lx1 := Lib.hid (Nat.lt_of_lt_of_le lx0.out h1.size)
  have i8 : IntKind.i64.wrap (8 - (F : Int)) = 8 - (F : Int) := by rw [IntKind.wrap_i64]; omega
  clear h1 ER HA cx0 cx1 lx0 B0
  by_cases hF8 : 8 < F
  · have neg : 8 - (F : Int) < 0 := by omega
    have FIN := Lib.hid (NOF.out hF8 w1 B1.out)
    clear NOE CORR
    go_wp2_with fail
    go_ret3
    exact FIN.out
  · obtain ⟨r, hr⟩ : ∃ r, 8 - F = r := ⟨_, rfl⟩
    have e8 : 8 - (F : Int) = (r : Int) := by omega
    rw [e8] at i8
    have F8 : F ≤ 8 := by omega
    have r8 : r ≤ 8 := by omega
    have W1 := Lib.hid (HH.out.below B1.out)
    have IB := Lib.hid (isBlock_any b cb n (.slice (some ⟨eb, 0, none⟩) n ce) f h9 hn W1.out.cap w1 W1.out.num)
    have q0 := c10.out
    have q1 := c11.out
    have HR := Lib.hid hr
    clear hr
    obtain ⟨t, ht⟩ : ∃ t, decide (Blk.Code (Gal.coefs f n)) = t := ⟨_, rfl⟩
    rw [ht] at IB
    have HT := Lib.hid ht
    clear ht
    go_wp2_with fail
    (with_reducible refine IB.out.mono ?_)
    rintro e w2 ⟨rfl, h2⟩
    have B2 := Lib.hid (bt B1.out h2)
    have c20 := Lib.hid ((h2.cell (p := ⟨w.heap.size, 0, none⟩) lx1.out).trans c10.out)
    have c21 := Lib.hid ((h2.cell (p := ⟨w.heap.size, 1, none⟩) lx1.out).trans c11.out)
    have lx2 := Lib.hid (Nat.lt_of_lt_of_le lx1.out h2.size)
    have W2 := Lib.hid (HH.out.below B2.out)
    clear q0 q1 h2 IB c10 c11 lx1
    cases t with
    | true =>
      have hc := of_decide_eq_true HT.out
      obtain ⟨m, hm⟩ : ∃ m, m + 8 = n := ⟨n - 8, by omega⟩
      have DT := Lib.hid (data_any b cb n m (.slice (some ⟨eb, 0, none⟩) n ce) f (by omega) hm W2.out.cap w2 W2.out.num)
      have FIN := Lib.hid (show ∀ w', Below w.heap.size w w' → DecP (Gal.coefs f n) (Blk.ers er n) w (.returned (.tuple #[.string ⟨(Gal.coefs f m).toArray⟩, .int .i64 0, .int .i64 0])) w' from fun w' hB => ⟨_, _, _, rfl, .inl ⟨Gal.coefs f n, near_self hc (by rw [HF.out]; omega), by rw [Gal.coefs_length, Blk.coefs_take f (by omega), show n - 8 = m by omega], by rw [dif_self]; rfl, rfl⟩, hB⟩)
      obtain ⟨st, hst⟩ : ∃ s : ByteArray, (⟨(Gal.coefs f m).toArray⟩ : ByteArray) = s := ⟨_, rfl⟩
      rw [hst] at DT FIN
      have q0 := c20.out
      have q1 := c21.out
      clear hst hc NOF NOE CORR hm
      go_wp2_with fail
      (with_reducible refine DT.out.mono ?_)
      rintro e w3 ⟨rfl, h3⟩
      have B3 := Lib.hid (bt B2.out h3)
      clear h3 DT q0 q1
      go_wp2_with fail
      go_ret3
      exact FIN.out _ B3.out
    | false =>
      clear NOF HT
      have e2 : (r : Int) / 2 = ((r / 2 : Nat) : Int) := by omega
      obtain ⟨u, hu⟩ : ∃ u, r / 2 = u := ⟨_, rfl⟩
      rw [hu] at e2
      have e3 : (r : Int).tdiv 2 = (u : Int) := by rw [Int.tdiv_eq_ediv_of_nonneg (by omega)]; exact e2
      have u4 : u ≤ 4 := by omega
      have uu := Lib.hid (show F + 2 * u ≤ 8 by have := HR.out; omega)
      have UE := Lib.hid (show (8 - F) / 2 + 1 = u + 1 by rw [HR.out, hu])
      rw [UE.out] at NOE
      have hz0 : ∀ c, Blk.Near (Gal.coefs f n) (Blk.ers er n) c → 0 ≤ Blk.besides (Gal.coefs f n) c (Blk.ers er n) := fun _ _ => Nat.zero_le _
      have HZ0 := Lib.hid hz0
      clear hu hz0 i8
      go_wp2_with fail
      go_loopw [21] (fun v wr => ∃ k : Nat, k ≤ u + 1 ∧ v = .int .i64 (k : Nat) ∧ (∀ c, Blk.Near (Gal.coefs f n) (Blk.ers er n) c → k ≤ Blk.besides (Gal.coefs f n) c (Blk.ers er n)) ∧ Below w2.heap.size w2 wr) (fun v _ => u + 1 - (intOf v).toNat)
      case atStart => exact ⟨0, Nat.zero_le _, rfl, HZ0.out, Below.refl _ _⟩
      case round =>
        obtain ⟨k, hk, rfl, hno, hB⟩ := hrel
        have HNO := Lib.hid hno
        have HB := Lib.hid (bt B2.out hB)
        have HB2 := Lib.hid hB
        have d0 := Lib.hid ((hB.cell (p := ⟨w.heap.size, 0, none⟩) lx2.out).trans c20.out)
        have d1 := Lib.hid ((hB.cell (p := ⟨w.heap.size, 1, none⟩) lx2.out).trans c21.out)
        have lxr := Lib.hid (Nat.lt_of_lt_of_le lx2.out hB.size)
        clear hno hB HZ0
        by_cases hlt : k < u + 1
        · have CC := Lib.hid (CORR.out k (by have := uu.out; omega) wr HB.out)
          have q0 := d0.out
          have q1 := d1.out
          have ku : (k : Int) < (u : Int) + 1 := by omega
          clear e2 e3 e8
          go_wp2_with fail
          (with_reducible refine CC.out.mono ?_)
          rintro e w3 ⟨hb3, ⟨g, cc, c, rfl, hcc, hcl, hcn, hnear⟩ | ⟨a, m, kc, rfl, hne⟩⟩
          · obtain ⟨m, hm⟩ : ∃ m, m + 8 = n := ⟨n - 8, by omega⟩
            have B3 := Lib.hid (bt HB.out hb3)
            have x0 := Lib.hid ((hb3.cell (p := ⟨w.heap.size, 0, none⟩) lxr.out).trans d0.out)
            have x1 := Lib.hid ((hb3.cell (p := ⟨w.heap.size, 1, none⟩) lxr.out).trans d1.out)
            have lx3 := Lib.hid (Nat.lt_of_lt_of_le lxr.out hb3.size)
            have NC := Lib.hid hcn
            have HCC := Lib.hid hcc
            have CT := Lib.hid (show Gal.coefs (Gal.co c) m = c.take (n - 8) by
              rw [← hcl, ← Blk.coefs_take (Gal.co c) (show m ≤ c.length by omega), Gal.coefs_co, show c.length - 8 = m by omega])
            have FIN := Lib.hid (show ∀ w', Below w.heap.size w w' → DecP (Gal.coefs f n) (Blk.ers er n) w (.returned (.tuple #[.string ⟨(Gal.coefs (Gal.co c) m).toArray⟩, .int .i64 (Blk.cnt (fun i => decide (f i ≠ Gal.co c i)) n : Nat), .int .i64 0])) w' from fun w' hB => ⟨_, _, _, rfl, .inl ⟨c, hnear, by rw [Gal.coefs_length]; exact CT.out, by rw [dif_coefs], rfl⟩, hB⟩)
            obtain ⟨dk, hdk⟩ : ∃ d, Blk.cnt (fun i => decide (f i ≠ Gal.co c i)) n = d := ⟨_, rfl⟩
            have HDK := Lib.hid hdk
            rw [hdk] at FIN
            clear hb3 hcc hcl hcn hnear CC q0 q1 CORR NOE HNO hdk
            go_upto_region 11 with fail
            obtain ⟨w4, hw4⟩ : ∃ w4, w3.alloc (.cells #[.slice (some ⟨g, 0, none⟩) n cc, .slice none 0 0] 53) = w4 := ⟨_, rfl⟩
            have b34 := ba (Below.refl w3.heap.size w3) (.cells #[.slice (some ⟨g, 0, none⟩) n cc, .slice none 0 0] 53)
            have k0 : (w3.alloc (.cells #[.slice (some ⟨g, 0, none⟩) n cc, .slice none 0 0] 53)).cell? ⟨w3.heap.size, 0, none⟩ = some (.slice (some ⟨g, 0, none⟩) n cc) := World.cell?_alloc_new w3 _ _ 0
            have k1 : (w3.alloc (.cells #[.slice (some ⟨g, 0, none⟩) n cc, .slice none 0 0] 53)).cell? ⟨w3.heap.size, 1, none⟩ = some (.slice none 0 0) := World.cell?_alloc_new w3 _ _ 1
            have z4 : (w3.alloc (.cells #[.slice (some ⟨g, 0, none⟩) n cc, .slice none 0 0] 53)).heap.size = w3.heap.size + 1 := World.size_alloc ..
            rw [hw4] at b34 k0 k1 z4 ⊢
            have B4 := Lib.hid (bt B3.out b34)
            have N4 := Lib.hid (NC.out.below b34)
            have W4 := Lib.hid (HH.out.below B4.out)
            have DT := Lib.hid (fun w' (hb : Below w4.heap.size w4 w') => data_any g cc n m (.slice none 0 0) (Gal.co c) (by omega) hm HCC.out w' (N4.out.below hb))
            have DF := Lib.hid (fun w' (hb : Below w4.heap.size w4 w') => differences_any b cb eb ce n g cc (.slice none 0 0) f (Gal.co c) (by omega) w' (W4.out.below hb).num (N4.out.below hb))
            rw [HDK.out] at DF
            obtain ⟨st, hst⟩ : ∃ s : ByteArray, (⟨(Gal.coefs (Gal.co c) m).toArray⟩ : ByteArray) = s := ⟨_, rfl⟩
            rw [hst] at DT FIN
            refine ddRegion w.heap.size w3.heap.size b cb eb ce n g cc dk st (by have := lx3.out; omega) ((b34.cell (p := ⟨w.heap.size, 0, none⟩) lx3.out).trans x0.out) ((b34.cell (p := ⟨w.heap.size, 1, none⟩) lx3.out).trans x1.out) (by omega) k0 k1 DT.out DF.out (by kernel_rfl) rfl rfl rfl rfl rfl rfl rfl rfl ?_
            intro w5 h5
            simp only [Act.put, List.setIfInBounds_toArray, List.set_cons_succ, List.set_cons_zero, List.drop_succ_cons, List.drop_zero]
            have B5 := Lib.hid (bt B4.out h5)
            clear hw4 hst h5 k0 k1 z4 b34 DT DF
            go_wp2_with fail
            go_ret3
            exact FIN.out _ B5.out
          · have B3 := Lib.hid (bt HB2.out hb3)
            have B4 := Lib.hid (ba B3.out (.cells #[.slice a m kc, .slice none 0 0] 53))
            have NO2 := Lib.hid (show ∀ c, Blk.Near (Gal.coefs f n) (Blk.ers er n) c → k + 1 ≤ Blk.besides (Gal.coefs f n) c (Blk.ers er n) from fun c hc => by
              have h1 := HNO.out c hc
              have h2 := hne c hc
              omega)
            clear hne hb3 CC q0 q1 HNO
            go_wp2_with fail
            go_roundw
            case rel => exact ⟨k + 1, by omega, by go_num, NO2.out, B4.out⟩
            case measure => simp [intOf]; omega
        · obtain rfl : k = u + 1 := by omega
          have FIN := Lib.hid (NOE.out F8 HNO.out wr HB.out)
          have ku : ¬ ((u + 1 : Nat) : Int) < (u : Int) + 1 := by omega
          clear HNO NOE CORR
          go_wp2_with fail
          go_ret3
          exact FIN.out
end Go.Proofs.YtlpjhmafplljaaaGreatDoor
