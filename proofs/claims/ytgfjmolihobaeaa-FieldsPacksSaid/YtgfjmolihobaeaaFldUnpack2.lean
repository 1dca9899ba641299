/- The contract of package fields' Unpack over this program, where the length fits. -/
import Derived.Test.YtgfjmolihobaeaaFldUnpack
namespace Go.Proofs.Ytgfjmolihobaeaa
open Go.RowKit Go.Shelf
set_option linter.unusedVariables false

theorem unp_values {zs : List Int} {l : List UInt8} {w w' : World} {B n cap : Nat} (h : Fld.unpE zs l = 0) (hn : (Fld.nats zs).length = n) (hc : n ≤ cap) (hB : B < w'.heap.size) (hv : ∀ j, j < n → w'.cell? ⟨B, j, none⟩ = some (.int .u64 (Fld.uv l (Fld.nats zs) j : Nat))) (hb : Below w.heap.size w w') :
    Unpacked zs l w (.returned (.tuple #[.slice (some ⟨B, 0, none⟩) n cap, .int .i64 0])) w' := by
  have e : Fld.unpV zs l = Fld.vals (Fld.nats zs) l := by unfold Fld.unpV; rw [if_pos h]
  have el : (Fld.unpV zs l).length = n := by rw [e, Fld.vals_length, hn]
  refine ⟨some ⟨B, 0, none⟩, cap, by rw [el, h], by rw [el]; exact hc, .inr ⟨B, 0, rfl, hB, fun j hj => ?_⟩, hb⟩
  have hj' : j < n := by rw [List.length_map, el] at hj; exact hj
  rw [Nat.zero_add, hv j hj', getD_ofNat _ _ (by rw [el]; exact hj'), e, Fld.vals_get _ _ _ (by rw [hn]; exact hj')]

set_option maxRecDepth 100000 in
set_option maxHeartbeats 4000000 in
theorem unp_ok (a : Option Addr) (cap : Nat) (zs : List Int) (s : ByteArray) (n : Nat) (hn : zs.length = n) (n0 : 0 < n) (hl : n ≤ 500) (hc : n ≤ cap) (hm : cap ≤ 9223372036854775807) (hs : s.size ≤ 5000) (hw : Fld.allW zs = true) (heq : s.size = (Fld.tot (Fld.nats zs) + 7) / 8) (w : World) (R : Reads .i64 w a zs) :
    Calls Try.prog 21 #[.slice a n cap, .string s] w (Unpacked zs s.data.toList w) := by
  have ls : s.data.toList.length = s.size := by simp
  have A := Lib.hid (areWidths_any a cap zs (by omega) w R)
  rw [hw, hn] at A
  have nl : (Fld.nats zs).length = n := by rw [Fld.nats_length, hn]
  have nb : ∀ j, j < (Fld.nats zs).length → (Fld.nats zs).getD j 0 ≤ 64 := fun j hj => (Fld.nats_get hw j (by omega)).2.2
  have R2 : Reads .i64 w a ((Fld.nats zs).map Int.ofNat) := by rw [Fld.nats_map hw]; exact R
  have FI := Lib.hid (filled_any a cap (Fld.nats zs) (by omega) (by omega) hm nb w R2)
  rw [nl] at FI
  have tb := Fld.tot_le (Fld.nats zs) 64 nb (Fld.nats zs).length (Nat.le_refl _)
  rw [List.take_length] at tb
  have fb := Fld.fill_le (Fld.nats zs) nb
  have FL := Lib.hid fb
  have fll := Fld.fill_length (Fld.nats zs)
  have ft := Fld.fill_tot (Fld.nats zs)
  have UVF := Lib.hid (Fld.uv_fill s.data.toList (Fld.nats zs))
  have fse : (Fld.tot (Fld.nats zs) % 8 = 0 ∧ Fld.fill (Fld.nats zs) = Fld.nats zs) ∨ (Fld.tot (Fld.nats zs) % 8 ≠ 0 ∧ Fld.fill (Fld.nats zs) = Fld.nats zs ++ [8 - Fld.tot (Fld.nats zs) % 8]) := by
    unfold Fld.fill
    split
    · exact .inl ⟨‹_›, rfl⟩
    · exact .inr ⟨‹_›, rfl⟩
  have FSE := Lib.hid fse
  obtain ⟨fs, hfs⟩ : ∃ fs, Fld.fill (Fld.nats zs) = fs := ⟨_, rfl⟩
  obtain ⟨m, hm'⟩ : ∃ m, fs.length = m := ⟨_, rfl⟩
  have mn : n ≤ m ∧ m ≤ n + 1 := by
    rcases fse with ⟨_, e⟩ | ⟨_, e⟩
    · rw [hfs] at e; rw [← hm', e, nl]; omega
    · rw [hfs] at e; rw [← hm', e, List.length_append, nl]; simp
  have tt : Fld.tot fs = 8 * s.size := by rw [hfs] at ft; omega
  have TM := Lib.hid (Fld.tot_mono fs)
  have TS := Lib.hid (Fld.tot_take_succ fs)
  have HF := Lib.hid hfs
  have HT := Lib.hid tt
  have HM := Lib.hid hm'
  obtain ⟨q1, q2⟩ : ((8 * (s.size : Int)) == 8 * (s.size : Int)) = true ∧ ((8 * (s.size : Int)) != 8 * (s.size : Int)) = false := by constructor <;> simp
  have HW := Lib.hid hw
  have HEQ := Lib.hid heq
  have NL := Lib.hid nl
  have LS := Lib.hid ls
  obtain ⟨m1, m2⟩ := mn
  clear hw hn R R2 tb ft fll nb nl hfs ls heq fb tt hm' fse
  go_enter Try.func21, Try.ntmps21
  go_wp2_with fail
  (with_reducible refine A.out.mono ?_)
  rintro e w' ⟨rfl, rfl⟩
  go_wp2_with fail
  (with_reducible refine FI.out.mono ?_)
  rintro e w1 ⟨a', cap', rfl, hfc, hfr, hfb⟩
  rw [HF.out] at hfr hfc ⊢
  rw [HM.out] at hfc ⊢
  have T2 := Lib.hid (total_any a' cap' fs (by have := HM.out; omega) (by rw [← HF.out]; exact FL.out) w1 hfr)
  rw [HT.out, HM.out] at T2
  have HFB := Lib.hid hfb
  obtain ⟨bA, oA, rfl, lA, cA⟩ := hfr.cell (by rw [List.length_map, HM.out]; omega)
  have CA := Lib.hid (fun j (h : j < m) => (cA j (by rw [List.length_map, HM.out]; exact h)).trans (by rw [getD_ofNat _ _ (by rw [HM.out]; exact h)] : some (Value.int IntKind.i64 ((fs.map Int.ofNat).getD j 0)) = some (.int .i64 (fs.getD j 0 : Nat))))
  clear hfb hfr cA
  have t8 : ((8 * s.size : Nat) : Int) = 8 * (s.size : Int) := by omega
  rw [t8] at T2
  clear t8
  go_wp2_with fail
  (with_reducible refine T2.out.mono ?_)
  rintro e w' ⟨rfl, rfl⟩
  obtain ⟨i0, hi, hz0, hz1, hz2⟩ := info_parts info_u64
  go_wp2_with (at_make; refine wpList_make_full _ rfl _ _ 37 rfl w1.heap.size 23 i0 (.int .u64 0) 1 Try.underlying37 hi hz0 hz1 .i64 .i64 _ _ m rfl rfl rfl rfl (by rw [hz2]; omega) (by unfold maxLen; omega) (Nat.le_refl _) ?_; intro w2 hown hgrow)
  obtain ⟨hnu, hBf⟩ := nums_made hown (fun j hj => made_zero64 m j hj)
  have hb2 : Below w1.heap.size w1 w2 := (Below.refl _ _).grown hgrow (Nat.le_refl _) (fun k e => by cases e)
  obtain ⟨B, hB⟩ : ∃ B, w1.heap.size = B := ⟨_, rfl⟩
  rw [hB] at hnu hBf hb2 lA ⊢
  have hwB : w.heap.size ≤ B := by rw [← hB]; exact HFB.out.size
  have HNU := Lib.hid hnu
  have HB2 := Lib.hid hb2
  have HBE := Lib.hid hB
  clear hb2 hown hgrow hB hi hz0 hz1 hz2 hnu
  go_loopw [8, 33] (fun p i wr => ∃ k : Nat, k ≤ m ∧ i = .int .i64 k ∧ p = .int .i64 (Fld.tot (fs.take k) : Nat) ∧ Nums wr B m (fun j => if j < k then Fld.uv s.data.toList fs j else 0) ∧ Below B w1 wr ∧ B < wr.heap.size) (fun _ i _ => m - (intOf i).toNat)
  case atStart => exact ⟨0, Nat.zero_le _, rfl, rfl, HNU.out, HB2.out, hBf⟩
  case round =>
    obtain ⟨k, hk, rfl, rfl, hnu, hB, hBs⟩ := hrel
    by_cases hlt : k < m
    · have q3 := (hB.cell (p := ⟨bA, oA + k, none⟩) lA).trans (CA.out k hlt)
      have ts := TS.out k (by rw [HM.out]; exact hlt)
      have tm := TM.out (k + 1)
      rw [HT.out] at tm
      have fb := FL.out k (by rw [HF.out, HM.out]; exact hlt)
      rw [HF.out] at fb
      have uvk : Fld.uv s.data.toList fs k = Fld.num s.data.toList (Fld.tot (fs.take k)) (fs.getD k 0) := rfl
      obtain ⟨x, hx⟩ : ∃ x, fs.getD k 0 = x := ⟨_, rfl⟩
      obtain ⟨p, hp⟩ : ∃ p, Fld.tot (fs.take k) = p := ⟨_, rfl⟩
      obtain ⟨p', hp'⟩ : ∃ p, Fld.tot (fs.take (k + 1)) = p := ⟨_, rfl⟩
      obtain ⟨u, hu⟩ : ∃ u, Fld.num s.data.toList p x = u := ⟨_, rfl⟩
      rw [hx] at q3 ts fb uvk
      rw [hp] at ts uvk ⊢
      rw [hp'] at ts tm
      rw [hu] at uvk
      have RD := Lib.hid (read_any s p x (by omega) (by omega) fb wr)
      rw [hu] at RD
      have TS2 := Lib.hid ts
      have HP := Lib.hid hp'
      have UK := Lib.hid uvk
      have HNU2 := Lib.hid hnu
      have HB3 := Lib.hid hB
      have p1 : p ≤ 50000 := by omega
      clear hnu hB ts hx hp hp' tm uvk hu
      go_wp2_with fail
      (with_reducible refine RD.out.mono ?_)
      rintro e w4 ⟨rfl, hB4⟩
      have N4 := HNU2.out.below hB4 hBs
      obtain ⟨n1, n2⟩ := N4 k hlt
      have NN := Lib.hid (N4.set (g := fun j => if j < k + 1 then Fld.uv s.data.toList fs j else 0) k u hlt (by rw [if_pos (by omega)]; exact UK.out) (fun j hj hjk => by
        by_cases e : j < k
        · rw [if_pos e, if_pos (by omega)]
        · rw [if_neg e, if_neg (by omega)]))
      have BB4 := Lib.hid ((HB3.out.trans (hB4.mono (by omega))).setCell (p := ⟨B, k, none⟩) (Nat.le_refl _) (.int .u64 u))
      have BS4 : B < w4.heap.size := Nat.lt_of_lt_of_le hBs hB4.size
      clear N4 hB4
      go_wp2_with fail
      go_roundw
      case rel => exact ⟨k + 1, by omega, by go_num, by rw [HP.out, TS2.out]; go_num, NN.out, BB4.out, by simpa [World.setCell] using BS4⟩
      case measure => simp [intOf]; omega
    · obtain rfl : m = k := by omega
      have HNU2 := Lib.hid hnu
      have HB3 := Lib.hid hB
      have HBW := Lib.hid (show Below w.heap.size w wr from HFB.out.trans (hB.mono hwB))
      clear hnu hB
      have k1 : ¬ m < m := Nat.lt_irrefl _
      have NC := Lib.hid (show ∀ j, j < m → wr.cell? ⟨B, j, none⟩ = some (.int .u64 (Fld.uv s.data.toList fs j : Nat)) from fun j hj => by
        have h := (HNU2.out j hj).1
        dsimp only at h
        rwa [if_pos hj] at h)
      rcases FSE.out with ⟨hr, e⟩ | ⟨hr, e⟩
      · have fn : fs = Fld.nats zs := by rw [← HF.out]; exact e
        obtain rfl : n = m := by rw [← NL.out, ← fn]; exact HM.out
        have hu0 : Fld.unpE zs s.data.toList = 0 := by
          unfold Fld.unpE
          rw [if_pos HW.out, if_pos ⟨by rw [LS.out]; exact HEQ.out, (Fld.restB_iff _ _).2 (fun i h1 h2 => by have := HEQ.out; rw [LS.out] at h2; omega)⟩]
        have QQ := Lib.hid (unp_values (w := w) (w' := wr) (cap := n) hu0 NL.out (Nat.le_refl _) hBs (fun j hj => by rw [← fn]; exact NC.out j hj) HBW.out)
        clear hu0 hr e fn
        go_wp2_with fail
        refine wp_loop_rounds 1 ?_
        rw [rounds_succ]
        go_wp2_with fail
        go_ret2
        exact QQ.out
      · have fn : fs = Fld.nats zs ++ [8 - Fld.tot (Fld.nats zs) % 8] := by rw [← HF.out]; exact e
        obtain rfl : m = n + 1 := by rw [← HM.out, fn, List.length_append, NL.out]; rfl
        have hlast := NC.out n (by omega)
        have ft : fs.take n = Fld.nats zs := by rw [fn, List.take_left' NL.out]
        have fg : fs.getD n 0 = 8 - Fld.tot (Fld.nats zs) % 8 := by rw [fn]; simp [List.getD, ← NL.out]
        have hz : Fld.uv s.data.toList fs n = 0 ↔ Fld.restB s.data.toList (Fld.tot (Fld.nats zs)) = true := by
          unfold Fld.uv
          rw [ft, fg, Fld.num_zero, Fld.restB_iff, LS.out]
          have := HEQ.out
          constructor
          · intro h i h1 h2
            have := h (i - Fld.tot (Fld.nats zs)) (by omega)
            rwa [show Fld.tot (Fld.nats zs) + (i - Fld.tot (Fld.nats zs)) = i by omega] at this
          · intro h i hi
            exact h _ (by omega) (by omega)
        obtain ⟨x, hx⟩ : ∃ x, Fld.uv s.data.toList fs n = x := ⟨_, rfl⟩
        rw [hx] at hlast hz
        by_cases xz : x = 0
        · have hu0 : Fld.unpE zs s.data.toList = 0 := by
            unfold Fld.unpE
            rw [if_pos HW.out, if_pos ⟨by rw [LS.out]; exact HEQ.out, hz.1 xz⟩]
          have QQ := Lib.hid (unp_values (w := w) (w' := wr) (cap := n) hu0 NL.out (Nat.le_refl _) hBs (fun j hj => by
            have h := NC.out j (by omega)
            rw [← HF.out, UVF.out j (by rw [NL.out]; exact hj)] at h
            exact h) HBW.out)
          subst xz
          clear hu0 hr e fn ft fg hz hx
          go_wp2_with fail
          go_loop [55] (fun i => ∃ k : Nat, k ≤ 1 ∧ i = .int .i64 k) (fun i => 1 - (intOf i).toNat)
          case atStart => exact ⟨0, by omega, rfl⟩
          case round =>
            obtain ⟨k, hk, rfl⟩ := hrel
            by_cases k0 : k = 0
            · subst k0
              go_wp2_with fail
              go_round
              case rel => exact ⟨1, by omega, by go_num⟩
              case measure => simp [intOf]
            · obtain rfl : k = 1 := by omega
              go_wp2_with fail
              go_ret2
              exact QQ.out
        · have hu0 : Fld.unpE zs s.data.toList = 6 := by
            unfold Fld.unpE
            rw [if_pos HW.out, if_neg (fun h => xz (hz.2 h.2))]
          have QQ := Lib.hid (unpacked_no hu0 (by omega) HBW.out)
          have x1 : ((x : Int) == 0) = false := by simp; omega
          have x2 : ((x : Int) != 0) = true := by simp; omega
          clear hu0 hr e fn ft fg hz hx xz
          go_wp2_with fail
          go_loop [55] (fun i => i = .int .i64 0) (fun i => 1)
          case atStart => rfl
          case round =>
            obtain rfl := hrel
            go_wp2_with fail
            go_ret2
            exact QQ.out
end Go.Proofs.Ytgfjmolihobaeaa
