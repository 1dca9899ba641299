/- The contracts of perigeeref05's turned, power, generator, Encode, Whole, Differ over this program. -/
import Derived.Test.YtlpjhmafplljaaaGreatDoorPkB
import Derived.Test.YtlpjhmafplljaaaGreatDoorPkM
namespace Go.Proofs.YtlpjhmafplljaaaGreatDoor
open Go.RowKit
set_option linter.unusedVariables false

theorem coefs_rev (l : List UInt8) : Gal.coefs (fun j => Gal.co l (l.length - 1 - j)) l.length = l.reverse := by
  refine Gal.ext (by rw [Gal.coefs_length, List.length_reverse]) (fun i hi => ?_)
  rw [Gal.coefs_length] at hi
  rw [Gal.co_coefs, if_pos hi, Blk.co_reverse l i hi]
set_option maxRecDepth 100000 in
theorem turned_any (s : ByteArray) (hs : s.size ≤ 400000) (w : World) :
    Calls Tryz.prog 20 #[.string s] w fun e w' => e = .returned (.string ⟨s.data.toList.reverse.toArray⟩) ∧ Below w.heap.size w w' := by
  have EV := Lib.hid (coefs_rev s.data.toList)
  rw [ls] at EV
  obtain ⟨n, hn⟩ : ∃ n, s.size = n := ⟨_, rfl⟩
  rw [hn] at hs EV
  have HN := Lib.hid hn
  have HBY := Lib.hid (fun i h => byte_co s i h)
  go_enter Tryz.func20, Tryz.ntmps20
  go_wp2_with fail
  clear hn
  go_loopw [3, 4] (fun o i wr => ∃ k : Nat, k ≤ n ∧ i = .int .i64 ((n : Int) - 1 - (k : Int)) ∧ wr.ownsRow w.heap.size 5 1 o k (vals (fun j => Gal.co s.data.toList (n - 1 - j)) k) ∧ Below w.heap.size w wr) (fun o _ _ => n - slen o)
  case atStart => exact ⟨0, Nat.zero_le _, by rw [show (n : Int) - 1 - ((0 : Nat) : Int) = (n : Int) - 1 by omega], World.ownsRow_nil _ _ _ _, Below.refl _ _⟩
  case round =>
    obtain ⟨k, hk, rfl, hown, hB⟩ := hrel
    by_cases hlt : k < n
    · obtain ⟨i, hi⟩ : ∃ i, n - 1 - k = i := ⟨_, rfl⟩
      rw [show (n : Int) - 1 - (k : Int) = (i : Int) by omega]
      have is : i < s.size := by rw [HN.out]; omega
      have bi := HBY.out i is
      have ns := vals_succ (fun j => Gal.co s.data.toList (n - 1 - j)) k
      rw [hi] at ns
      obtain ⟨u, hu⟩ : ∃ u, (Gal.co s.data.toList i).toNat = u := ⟨_, rfl⟩
      rw [hu] at bi ns
      have NS := Lib.hid ns
      have SL := Lib.hid (own_slen hown)
      have HO := Lib.hid hown
      have HK := Lib.hid (show (i : Int) - 1 = (n : Int) - 1 - ((k + 1 : Nat) : Int) by omega)
      have i3 : IntKind.i64.wrap ((i : Int) - 1) = (i : Int) - 1 := by rw [IntKind.wrap_i64]; omega
      obtain ⟨i0, hi0, hz0, hz1, hz2⟩ := info_parts info_u8
      have B1 := Lib.hid (hB.alloc hB.size (.cells #[.int .u8 (u : Int)] 5))
      clear hu ns hown hB HBY hi
      go_wp2_with (at_builtin; refine wpList_append_own _ rfl _ _ 41 rfl w.heap.size 5 i0 (.int .u8 0) 1 1 Tryz.underlying41 hi0 hz0 hz1 hz2 rfl (by decide) _ _ _ rfl (HO.out.alloc _) ⟨wr.heap.size, 0, none⟩ 1 1 [.int .u8 (u : Int)] rfl rfl cell_one (by simp [Value.oneCell']) (by unfold maxLen; omega) (by omega) (by have := B1.out.size; simp at this ⊢; omega) ?_; intro v' w2 hown2 hgrow _; obtain ⟨g', cap', rfl⟩ := ownsRow_succ hown2; have HO2 := Lib.hid hown2; have BW2 := Lib.hid (B1.out.grown hgrow B1.out.size (fun k e => own_block_ge HO.out e)); clear hown2 hgrow)
      go_roundw
      case rel => exact ⟨k + 1, by omega, by rw [HK.out], by rw [NS.out]; exact HO2.out, BW2.out⟩
      case measure => rw [SL.out]; simp [slen]; omega
    · obtain rfl : k = n := by omega
      rw [show (k : Int) - 1 - (k : Int) = -1 by omega]
      have CV := Lib.hid (own_back hown)
      have HB := Lib.hid hB
      clear hown hB HBY
      go_wp2_with (simp only [CV.out])
      go_ret
      exact ⟨by rw [← EV.out]; rfl, HB.out⟩
theorem lg2 : Gal.lg 2#8 = 1 := by decide +kernel
theorem power2_any (n : Int) (w : World) :
    Calls Tryz.prog 33 #[.int .i64 n] w fun e w' => e = .returned (.int .u8 ((Gal.pwi n).toNat : Nat)) ∧ w = w' := by
  have P := Lib.hid (rpow_any 2#8 n w)
  rw [show Gal.powV 2#8 n = Gal.pwi n by
    unfold Gal.powV
    rw [if_neg (by decide), lg2, show (((1 : Nat) : Int)) * n = n by omega], show Gal.powE 2#8 n = 0 from if_neg (fun q => absurd q.1 (by decide)), show ((2#8 : BitVec 8).toNat : Int) = 2 from rfl] at P
  obtain ⟨v, hv⟩ : ∃ v, (Gal.pwi n).toNat = v := ⟨_, rfl⟩
  rw [hv] at P ⊢
  clear hv
  go_enter Tryz.func33, Tryz.ntmps33
  go_wp2_with fail
  (with_reducible refine P.out.mono ?_)
  rintro e w' ⟨rfl, rfl⟩
  go_wp2_with fail
  go_ret
  exact ⟨rfl, rfl⟩
/-- Two bytes as a string. -/
theorem pair_str (w : World) (h l : BitVec 8) :
    (convert 41 9 (.slice (some ⟨w.heap.size, 0, none⟩) 2 2)).run Tryz.prog (w.alloc (.cells #[.int .u8 (h.toNat : Nat), .int .u8 (l.toNat : Nat)] 5)) = .ok (.string ⟨#[UInt8.ofBitVec h, UInt8.ofBitVec l]⟩) (w.alloc (.cells #[.int .u8 (h.toNat : Nat), .int .u8 (l.toNat : Nat)] 5)) := by
  have c0 : (w.alloc (.cells #[.int .u8 (h.toNat : Nat), .int .u8 (l.toNat : Nat)] 5)).cell? ⟨w.heap.size, 0, none⟩ = some (.int .u8 (h.toNat : Nat)) := World.cell?_alloc_new w _ _ 0
  have c1 : (w.alloc (.cells #[.int .u8 (h.toNat : Nat), .int .u8 (l.toNat : Nat)] 5)).cell? ⟨w.heap.size, 1, none⟩ = some (.int .u8 (l.toNat : Nat)) := World.cell?_alloc_new w _ _ 1
  exact run_convert_bytes_back (P := Tryz.prog) _ 41 9 5 ⟨w.heap.size, 0, none⟩ 2 [UInt8.ofBitVec h, UInt8.ofBitVec l] Tryz.underlying41 Tryz.underlying5 Tryz.underlying9 (fun j hj => by
    have e : (⟨w.heap.size, 0, none⟩ : Addr).add j = ⟨w.heap.size, j, none⟩ := by unfold Addr.add; split <;> simp_all
    rw [e]
    match j, hj with
    | 0, _ => rw [c0]; rfl
    | 1, _ => rw [c1]; rfl)
/-- The generator as it grows. -/
def gens : Nat → List UInt8
  | 0 => [1]
  | k + 1 => Gal.prodV (gens k) [UInt8.ofBitVec (Gal.pw k), 1]
theorem gens_len : ∀ k, k ≤ 8 → (gens k).length ≤ 9 := by decide +kernel
theorem gens_ok : ∀ k, k < 8 → Gal.prodE (gens k) [UInt8.ofBitVec (Gal.pw k), 1] = 0 := by decide +kernel
theorem gens_all : gens 8 = Blk.gen := by decide +kernel
theorem sz (l : List UInt8) : (⟨l.toArray⟩ : ByteArray).size = l.length := by
  show l.toArray.size = _
  rw [List.size_toArray]
set_option maxRecDepth 100000 in
theorem generator_any (w : World) :
    Calls Tryz.prog 22 #[] w fun e w' => e = .returned (.string ⟨Blk.gen.toArray⟩) ∧ Below w.heap.size w w' := by
  have PR := Lib.hid (fun k hk w => rprod_any (⟨(gens k).toArray⟩ : ByteArray) ⟨#[UInt8.ofBitVec (Gal.pw k), 1]⟩ (by rw [sz]; have := gens_len k hk; omega) (show 2 ≤ 400000 by omega) w)
  have PW := Lib.hid (fun n w => power2_any n w)
  have OK := Lib.hid gens_ok
  have EA := Lib.hid gens_all
  go_enter Tryz.func22, Tryz.ntmps22
  go_wp2_with fail
  go_loopw [1, 2] (fun o i wr => ∃ k : Nat, k ≤ 8 ∧ i = .int .i64 k ∧ o = .string ⟨(gens k).toArray⟩ ∧ Below w.heap.size w wr) (fun _ i _ => 8 - (intOf i).toNat)
  case atStart => exact ⟨0, Nat.zero_le _, rfl, rfl, Below.refl _ _⟩
  case round =>
    obtain ⟨k, hk, rfl, rfl, hB⟩ := hrel
    by_cases hlt : k < 8
    · have C1 := Lib.hid (PW.out (k : Int))
      rw [Gal.pwi_nat] at C1
      have C2 := Lib.hid (PR.out k hk)
      rw [OK.out k hlt, show Gal.prodV (gens k) [UInt8.ofBitVec (Gal.pw k), 1] = gens (k + 1) from rfl] at C2
      have cv := pair_str wr (Gal.pw k) 1#8
      rw [show (UInt8.ofBitVec 1#8 : UInt8) = 1 from rfl, show ((1#8 : BitVec 8).toNat : Int) = 1 from rfl] at cv
      obtain ⟨y, hy⟩ : ∃ y : ByteArray, (⟨#[UInt8.ofBitVec (Gal.pw k), 1]⟩ : ByteArray) = y := ⟨_, rfl⟩
      rw [hy] at cv C2
      obtain ⟨v, hv⟩ : ∃ v, (Gal.pw k).toNat = v := ⟨_, rfl⟩
      rw [hv] at cv C1
      have CV := Lib.hid cv
      have B1 := Lib.hid (ba hB (.cells #[.int .u8 (v : Nat), .int .u8 1] 5))
      obtain ⟨g, hg⟩ : ∃ g : ByteArray, (⟨(gens k).toArray⟩ : ByteArray) = g := ⟨_, rfl⟩
      obtain ⟨g', hg'⟩ : ∃ g : ByteArray, (⟨(gens (k + 1)).toArray⟩ : ByteArray) = g := ⟨_, rfl⟩
      rw [hg, hg'] at C2
      rw [hg]
      have HG := Lib.hid hg'
      clear hy hv hg hg' cv hB PR PW OK EA
      go_wp2_with fail
      (with_reducible refine (C1.out _).mono ?_)
      rintro e w' ⟨rfl, rfl⟩
      go_wp2_with (simp only [CV.out])
      (with_reducible refine (C2.out _).mono ?_)
      rintro e w2 ⟨rfl, h2⟩
      have B2 := Lib.hid (bt B1.out h2)
      clear h2
      go_wp2_with fail
      go_roundw
      case rel => exact ⟨k + 1, by omega, by go_num, by rw [HG.out], B2.out⟩
      case measure => simp [intOf]; omega
    · obtain rfl : k = 8 := by omega
      have HB := Lib.hid hB
      rw [EA.out]
      clear hB PR PW OK
      go_wp2_with fail
      go_ret
      exact ⟨rfl, HB.out⟩
/-- Eight bytes 0 and the data backwards. -/
theorem high_str (d : ByteArray) : (⟨(Gal.coefs (fun _ => 0#8) 8).toArray⟩ : ByteArray) ++ (⟨d.data.toList.reverse.toArray⟩ : ByteArray) = ⟨(Blk.high d.data.toList).toArray⟩ := by
  apply ByteArray.ext
  have : Gal.coefs (fun _ => 0#8) 8 = List.replicate 8 0 := by decide +kernel
  rw [ByteArray.data_append, this]
  unfold Blk.high
  simp
theorem step_make {o : Oper} {a : Act} {w : World} {K : Act → World → Prop} {Q : Exit → Act → World → Prop} {x : Operand} (hop : o.op = .makeSlice 41 x x) (n : Nat) (hn : n ≤ 1000000) {k : IntKind} (hx : a.eval x = .int k (n : Nat))
    (h : ∀ w', NumsK .u8 w' w.heap.size n (fun _ => 0) → Below w.heap.size w w' → K (a.put o.dst (.slice (some ⟨w.heap.size, 0, none⟩) n n)) w') : o.wp Tryz.prog a w K Q := by
  obtain ⟨i0, hi, hz0, hz1, hz2⟩ := info_parts info_u8
  obtain ⟨w', hrun, r1, r2⟩ := run_make_full (P := Tryz.prog) w w.heap.size 41 5 i0 (.int .u8 0) 1 Tryz.underlying41 hi hz0 hz1 k k n (by rw [hz2]; omega) (by unfold maxLen; omega) (Nat.le_refl _)
  unfold Oper.wp
  simp [execOp, hop, hx, hrun, Result.andThen]
  exact h w' (madeNums r1) ((Below.refl _ _).grown r2 (Nat.le_refl _) (fun k e => by cases e))
structure EncRegion (dat : ByteArray) (A : Act) (w0 : World) (s : Nat → Bool) (a : Act) (w : World) : Prop where
  off : Off [16, 17, 18, 19, 20, 4] a A
  before : Below w0.heap.size w0 w
  t0 : s 0 = true → ∃ B0, a.eval (.tmp 16) = .slice (some ⟨B0, 0, none⟩) 8 8 ∧ NumsK .u8 w B0 8 (fun _ => 0)
  t1 : s 1 = true → a.eval (.tmp 17) = .string ⟨(Gal.coefs (fun _ => 0#8) 8).toArray⟩
  t2 : s 2 = true → a.eval (.tmp 18) = .string dat
  t3 : s 3 = true → a.eval (.tmp 19) = .string ⟨dat.data.toList.reverse.toArray⟩
  t4 : s 4 = true → a.eval (.tmp 20) = .string (⟨(Gal.coefs (fun _ => 0#8) 8).toArray⟩ ++ ⟨dat.data.toList.reverse.toArray⟩)
  t5 : s 5 = true → a.eval (.tmp 4) = .string (⟨(Gal.coefs (fun _ => 0#8) 8).toArray⟩ ++ ⟨dat.data.toList.reverse.toArray⟩)
set_option maxHeartbeats 2000000 in
set_option maxRecDepth 100000 in
theorem encRegion {id : Nat} {d : Bool} {l : List Oper} {A : Act} {w : World} {Q : Exit → Act → World → Prop} (dat : ByteArray)
    (hd : dat.size ≤ 1000)
    (hB : tableL d l.toArray (fun i => match i with | 0 => [] | 1 => [0] | 2 => [] | 3 => [2] | 4 => [1, 3] | 5 => [4] | _ => []) (fun i => match i with | 0 => [] | 1 => [] | 2 => [] | 3 => [] | 4 => [] | 5 => [] | _ => []) = true) (hl : l.length = 6)
    (h0 : pick l 0 = some (.makeSlice 41 (.const (.int .i64 8)) (.const (.int .i64 8)), some 16))
    (h1 : pick l 1 = some (.convert 41 9 (.tmp 16), some 17))
    (h2 : pick l 2 = some (.move (.tmp 0), some 18))
    (h3 : pick l 3 = some (.call { callee := .value (.func 20), args := #[.tmp 18], argTypes := #[9] }, some 19))
    (h4 : pick l 4 = some (.binOp .add 9 (.tmp 17) (.tmp 19) 9, some 20))
    (h5 : pick l 5 = some (.assign (.tmp 20), some 4))
    (hs : A.tmps.size = 37)
    (x0 : A.eval (.tmp 0) = .string dat)
    (h : ∀ B0 w1, Below w.heap.size w w1 → Q .normal ((((((A.put (some 16) (.slice (some ⟨B0, 0, none⟩) 8 8)).put (some 17) (.string ⟨(Gal.coefs (fun _ => 0#8) 8).toArray⟩)).put (some 18) (.string dat)).put (some 19) (.string ⟨dat.data.toList.reverse.toArray⟩)).put (some 20) (.string (⟨(Gal.coefs (fun _ => 0#8) 8).toArray⟩ ++ ⟨dat.data.toList.reverse.toArray⟩))).put (some 4) (.string (⟨(Gal.coefs (fun _ => 0#8) 8).toArray⟩ ++ ⟨dat.data.toList.reverse.toArray⟩))) w1) :
    (Code.region id l.toArray d).wp Tryz.prog Q A w := by
  refine wp_region_invL (by kernel_rfl) _ _ hB (EncRegion dat A w) ⟨Off.refl _ _, Below.refl _ _, by simp, by simp, by simp, by simp, by simp, by simp⟩ ⟨Off.refl _ _, (Below.refl _ _).drew, by simp, by simp, by simp, by simp, by simp, by simp⟩ ?_ ?_
  · intro s a w' S i' o ho hsi hT K hK
    have sz : a.tmps.size = 37 := by rw [S.off.2.1]; exact hs
    have il : i' < 6 := by have := (List.getElem?_eq_some_iff.1 ho).1; omega
    have y0 : a.eval (.tmp 0) = .string dat := by rw [S.off.eval (by decide)]; exact x0
    match i', il, ho, hsi, hT with
    | 0, _, ho, hsi, hT =>
      obtain ⟨e1, e2⟩ := pick_of h0 ho
      have BW := S.before
      refine step_make e1 8 (by omega) (k := .i64) (rfl) ?_
      intro w2 NN BB
      refine hK _ _ ?_
      rw [e2]
      exact ⟨S.off.put (by decide) _, bt BW BB, fun _ => ⟨w'.heap.size, (eval_put _ _ _ (by omega)).trans rfl, NN⟩, kp S.t1, kp S.t2, kp S.t3, kp S.t4, kp S.t5⟩
    | 1, _, ho, hsi, hT =>
      obtain ⟨e1, e2⟩ := pick_of h1 ho
      have D0 : s 0 = true := list_pos hT (d := 0) (by decide)
      have BW := S.before
      obtain ⟨B0, M0, NU0⟩ := S.t0 D0
      have cv := nums_back (f := fun _ => 0#8) 8 NU0
      refine step_val (v := .string ⟨(Gal.coefs (fun _ => 0#8) 8).toArray⟩) (by simp only [execOp, e1, M0]; go_simp) (hK _ _ ?_)
      rw [e2]
      exact ⟨S.off.put (by decide) _, S.before, fun g => (S.t0 (by simpa using g)).imp fun b hb => ⟨by rw [eval_put_ne _ _ _ _ (by decide)]; exact hb.1, hb.2⟩, fun _ => (eval_put _ _ _ (by omega)).trans rfl, kp S.t2, kp S.t3, kp S.t4, kp S.t5⟩
    | 2, _, ho, hsi, hT =>
      obtain ⟨e1, e2⟩ := pick_of h2 ho
      have BW := S.before
      refine step_val (v := .string dat) (by simp only [execOp, e1, y0]; go_simp) (hK _ _ ?_)
      rw [e2]
      exact ⟨S.off.put (by decide) _, S.before, fun g => (S.t0 (by simpa using g)).imp fun b hb => ⟨by rw [eval_put_ne _ _ _ _ (by decide)]; exact hb.1, hb.2⟩, kp S.t1, fun _ => (eval_put _ _ _ (by omega)).trans rfl, kp S.t3, kp S.t4, kp S.t5⟩
    | 3, _, ho, hsi, hT =>
      obtain ⟨e1, e2⟩ := pick_of h3 ho
      have D2 : s 2 = true := list_pos hT (d := 2) (by decide)
      have BW := S.before
      refine step_call 20 (fun args w => by go_simp) _ _ e1 #[.string dat] (by simp only [List.map_toArray, List.map_cons, List.map_nil, S.t2 D2]) ((turned_any dat (by omega) _).mono ?_)
      rintro e w2 ⟨rfl, BB⟩
      refine ⟨_, rfl, hK _ _ ?_⟩
      rw [e2]
      exact ⟨S.off.put (by decide) _, bt BW BB, fun g => (S.t0 (by simpa using g)).imp fun b hb => ⟨by rw [eval_put_ne _ _ _ _ (by decide)]; exact hb.1, hb.2.below BB⟩, kp S.t1, kp S.t2, fun _ => (eval_put _ _ _ (by omega)).trans rfl, kp S.t4, kp S.t5⟩
    | 4, _, ho, hsi, hT =>
      obtain ⟨e1, e2⟩ := pick_of h4 ho
      have D1 : s 1 = true := list_pos hT (d := 1) (by decide)
      have D3 : s 3 = true := list_pos hT (d := 3) (by decide)
      have BW := S.before
      refine step_val (v := .string (⟨(Gal.coefs (fun _ => 0#8) 8).toArray⟩ ++ ⟨dat.data.toList.reverse.toArray⟩)) (by simp only [execOp, e1, S.t1 D1, S.t3 D3]; go_simp; rw [Gal.coefs_length]; omega) (hK _ _ ?_)
      rw [e2]
      exact ⟨S.off.put (by decide) _, S.before, fun g => (S.t0 (by simpa using g)).imp fun b hb => ⟨by rw [eval_put_ne _ _ _ _ (by decide)]; exact hb.1, hb.2⟩, kp S.t1, kp S.t2, kp S.t3, fun _ => (eval_put _ _ _ (by omega)).trans rfl, kp S.t5⟩
    | 5, _, ho, hsi, hT =>
      obtain ⟨e1, e2⟩ := pick_of h5 ho
      have D4 : s 4 = true := list_pos hT (d := 4) (by decide)
      have BW := S.before
      refine step_val (v := .string (⟨(Gal.coefs (fun _ => 0#8) 8).toArray⟩ ++ ⟨dat.data.toList.reverse.toArray⟩)) (by simp only [execOp, e1, S.t4 D4]; go_simp) (hK _ _ ?_)
      rw [e2]
      exact ⟨S.off.put (by decide) _, S.before, fun g => (S.t0 (by simpa using g)).imp fun b hb => ⟨by rw [eval_put_ne _ _ _ _ (by decide)]; exact hb.1, hb.2⟩, kp S.t1, kp S.t2, kp S.t3, kp S.t4, fun _ => (eval_put _ _ _ (by omega)).trans rfl⟩
  · intro s a w' S hall
    have a0 := hall 0 (by omega)
    have a1 := hall 1 (by omega)
    have a2 := hall 2 (by omega)
    have a3 := hall 3 (by omega)
    have a4 := hall 4 (by omega)
    have a5 := hall 5 (by omega)
    have e := off_norm _ (by intro d hd; simp at hd; omega) S.off
    obtain ⟨B0, M0, _⟩ := S.t0 a0
    simp only [List.foldl, M0, S.t1 a1, S.t2 a2, S.t3 a3, S.t4 a4, S.t5 a5] at e
    rw [e]
    exact h _ _ S.before
theorem pad_one (l : List UInt8) (k : Nat) (h : k < 8) (hk : l.length ≤ k) : Gal.coefs (Gal.co l) (k + 1) = Gal.coefs (Gal.co l) k ++ [0] := by
  rw [Gal.coefs_succ, Gal.co_out hk]
  rfl
theorem restV_len (d : List UInt8) : (Gal.restV (Blk.high d) Blk.gen).length ≤ 8 := by
  have h := Gal.rest_less (Blk.high d) Blk.gen (by rw [Blk.gen_nn]; omega)
  rw [Blk.gen_nn] at h
  have : (Gal.restV (Blk.high d) Blk.gen).length = Gal.nn (Gal.restV (Blk.high d) Blk.gen) := by
    unfold Gal.restV
    rw [if_neg (by rw [Blk.gen_nn]; omega)]
    unfold Gal.pol
    rw [Gal.nn_trim, Gal.trim_length]
  omega
theorem rest_coefs (d : List UInt8) : Gal.coefs (Gal.co (Gal.restV (Blk.high d) Blk.gen)) 8 = Gal.coefs (Blk.rem d) 8 :=
  Gal.coefs_congr (fun i hi => Gal.co_restV (by rw [Blk.gen_nn]; omega) i)
set_option maxRecDepth 100000 in
set_option maxHeartbeats 1000000 in
theorem rencode_any (d : ByteArray) (h1 : 1 ≤ d.size) (h2 : d.size ≤ 223) (w : World) :
    Calls Tryz.prog 8 #[.string d] w fun e w' => e = .returned (.tuple #[.string ⟨(Blk.enc d.data.toList).toArray⟩, .int .i64 0]) ∧ Below w.heap.size w w' := by
  have G := Lib.hid (fun w => generator_any w)
  have hh : (⟨(Blk.high d.data.toList).toArray⟩ : ByteArray).size = d.size + 8 := by rw [sz, Blk.high_length, ls]
  have QT := Lib.hid (fun w => rquot_any (⟨(Blk.high d.data.toList).toArray⟩ : ByteArray) (⟨Blk.gen.toArray⟩ : ByteArray) (by omega) (by decide) w)
  rw [show (⟨(Blk.high d.data.toList).toArray⟩ : ByteArray).data.toList = Blk.high d.data.toList from rfl, show (⟨Blk.gen.toArray⟩ : ByteArray).data.toList = Blk.gen from rfl, show Gal.quotE Blk.gen = 0 from if_neg (by rw [Blk.gen_nn]; omega)] at QT
  have rl := restV_len d.data.toList
  have TU := Lib.hid (fun w => turned_any (⟨(Gal.coefs (Blk.rem d.data.toList) 8).toArray⟩ : ByteArray) (by rw [coefs_size]; omega) w)
  rw [show (⟨(Gal.coefs (Blk.rem d.data.toList) 8).toArray⟩ : ByteArray).data.toList = Gal.coefs (Blk.rem d.data.toList) 8 from rfl] at TU
  have FIN := Lib.hid (show d ++ (⟨(Gal.coefs (Blk.rem d.data.toList) 8).reverse.toArray⟩ : ByteArray) = ⟨(Blk.enc d.data.toList).toArray⟩ by
    apply ByteArray.ext
    rw [ByteArray.data_append]
    unfold Blk.enc
    simp)
  have RC := rest_coefs d.data.toList
  have HS := Lib.hid (high_str d)
  obtain ⟨r, hr⟩ : ∃ r, Gal.restV (Blk.high d.data.toList) Blk.gen = r := ⟨_, rfl⟩
  rw [hr] at QT rl RC
  have HRC := Lib.hid RC
  have PAD := Lib.hid (fun k h hk => pad_one r k h hk)
  have HR0 := Lib.hid (show Gal.coefs (Gal.co r) r.length = r from Gal.coefs_co r)
  obtain ⟨qv, hqv⟩ : ∃ q : ByteArray, (⟨(Gal.quotV (Blk.high d.data.toList) Blk.gen).toArray⟩ : ByteArray) = q := ⟨_, rfl⟩
  rw [hqv] at QT
  obtain ⟨hs, hhs⟩ : ∃ q : ByteArray, (⟨(Blk.high d.data.toList).toArray⟩ : ByteArray) = q := ⟨_, rfl⟩
  rw [hhs] at QT HS
  have d3 : d.size ≤ 1000 := by omega
  obtain ⟨n, hn⟩ : ∃ n, d.size = n := ⟨_, rfl⟩
  rw [hn] at h1 h2
  have HN := Lib.hid hn
  obtain ⟨gs, hgs⟩ : ∃ g : ByteArray, (⟨Blk.gen.toArray⟩ : ByteArray) = g := ⟨_, rfl⟩
  rw [hgs] at G QT
  obtain ⟨rs, hrs⟩ : ∃ g : ByteArray, (⟨(Gal.coefs (Blk.rem d.data.toList) 8).reverse.toArray⟩ : ByteArray) = g := ⟨_, rfl⟩
  have hrz : rs.size = 8 := by rw [← hrs, sz, List.length_reverse, Gal.coefs_length]
  rw [hrs] at TU FIN
  clear hh RC hr hqv hhs hgs hrs
  go_enter Tryz.func8, Tryz.ntmps8
  go_upto_region 3 with fail
  clear hn
  refine encRegion d d3 (by kernel_rfl) rfl rfl rfl rfl rfl rfl rfl rfl rfl ?_
  intro B0 w1 B1
  simp only [Act.put, List.setIfInBounds_toArray, List.set_cons_succ, List.set_cons_zero]
  rw [HS.out]
  have HB1 := Lib.hid B1
  obtain ⟨z1, hz1⟩ : ∃ z : ByteArray, (⟨(Gal.coefs (fun _ => 0#8) 8).toArray⟩ : ByteArray) = z := ⟨_, rfl⟩
  obtain ⟨z2, hz2⟩ : ∃ z : ByteArray, (⟨d.data.toList.reverse.toArray⟩ : ByteArray) = z := ⟨_, rfl⟩
  rw [hz1, hz2]
  clear B1 hz1 hz2 HS
  go_wp2_with fail
  (with_reducible refine (G.out _).mono ?_)
  rintro e w2 ⟨rfl, h3⟩
  have HB2 := Lib.hid (bt HB1.out h3)
  clear h3
  go_wp2_with fail
  (with_reducible refine (QT.out _).mono ?_)
  rintro e w3 ⟨rfl, h3⟩
  have HB3 := Lib.hid (bt HB2.out h3)
  clear h3
  go_wp2_with fail
  go_loop [6] (fun s => ∃ k : Nat, r.length ≤ k ∧ k ≤ 8 ∧ s = .string ⟨(Gal.coefs (Gal.co r) k).toArray⟩) (fun s => 8 - strLen s)
  case atStart => exact ⟨r.length, Nat.le_refl _, rl, by rw [HR0.out]⟩
  case round =>
    obtain ⟨k, hk1, hk, rfl⟩ := hrel
    have zk := coefs_size (Gal.co r) k
    by_cases hlt : k < 8
    · have NX := Lib.hid (show (⟨(Gal.coefs (Gal.co r) k).toArray⟩ : ByteArray) ++ { data := #[0] } = ⟨(Gal.coefs (Gal.co r) (k + 1)).toArray⟩ by
        rw [PAD.out k hlt hk1]
        apply ByteArray.ext
        rw [ByteArray.data_append]
        simp)
      have zk2 := coefs_size (Gal.co r) (k + 1)
      obtain ⟨s1, hs1⟩ : ∃ z : ByteArray, (⟨(Gal.coefs (Gal.co r) k).toArray⟩ : ByteArray) = z := ⟨_, rfl⟩
      rw [hs1] at NX zk ⊢
      have HZ := Lib.hid (show (s1 ++ { data := #[0] }).size = k + 1 by rw [NX.out]; exact zk2)
      clear hs1 zk2
      go_wp2_with fail
      go_round
      case rel => exact ⟨k + 1, by omega, by omega, by rw [← NX.out]⟩
      case measure => simp only [strLen]; have := HZ.out; first | omega | (simp at this ⊢; try omega)
    · obtain rfl : k = 8 := by omega
      rw [HRC.out] at zk ⊢
      obtain ⟨s1, hs1⟩ : ∃ z : ByteArray, (⟨(Gal.coefs (Blk.rem d.data.toList) 8).toArray⟩ : ByteArray) = z := ⟨_, rfl⟩
      rw [hs1] at TU zk ⊢
      clear hs1
      go_wp2_with fail
      (with_reducible refine (TU.out _).mono ?_)
      rintro e w4 ⟨rfl, h3⟩
      have HB4 := Lib.hid (bt HB3.out h3)
      have hn := HN.out
      clear h3
      go_wp2_with fail
      go_ret2
      exact ⟨by rw [← FIN.out]; rfl, HB4.out⟩
end Go.Proofs.YtlpjhmafplljaaaGreatDoor
