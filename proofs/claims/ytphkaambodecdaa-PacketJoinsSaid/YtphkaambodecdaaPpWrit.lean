/- Layer 9, the landed program: written: the header whose fields have some values. -/
import Derived.Test.YtphkaambodecdaaPpBase
import Derived.BigQuiet
import Derived.Deep.QuietTactic
namespace Go.Proofs.Ytphkaambodecdaa
open Go.RowKit Go.Shelf
set_option linter.unusedVariables false
set_option maxRecDepth 100000

theorem nums_reads {w : World} {B n : Nat} {vs : List Nat} (hn : vs.length = n) (h : Nums w B n (fun j => vs.getD j 0)) (hB : B < w.heap.size) : FReads .u64 w (some ⟨B, 0, none⟩) (vs.map Int.ofNat) := .inr ⟨B, 0, rfl, hB, fun j hj => by
  rw [List.length_map, hn] at hj
  rw [Nat.zero_add, (h j hj).1, getD_ofNat _ _ (by omega)]⟩

set_option maxHeartbeats 4000000 in
theorem written_any (b o c : Nat) (vs : List Nat) (hv : vs.length = 7) (hb : ∀ j, j < 7 → vs.getD j 0 ≤ 1000000) (w : World) (R : FReads .i64 w (some ⟨b, o, none⟩) (vs.map Int.ofNat)) :
    Calls Try.prog 47 #[.slice (some ⟨b, o, none⟩) 7 c] w fun e w' => e = .returned (.string ⟨(Fld.packV Pk.wid vs).toArray⟩) ∧ Below w.heap.size w w' := by
  obtain ⟨b1, o1, e1, lb, cl⟩ := R.cell (by rw [List.length_map]; omega)
  cases e1
  have CL := Lib.hid (show ∀ j, j < 7 → w.cell? ⟨b, o + j, none⟩ = some (.int .i64 (vs.getD j 0 : Nat)) from fun j hj => by
    rw [cl j (by rw [List.length_map]; omega), getD_ofNat _ _ (by omega)])
  have HV := Lib.hid hv
  have HBD := Lib.hid hb
  have HWD := Lib.hid (fun w => headWidths_any w)
  have PA := Lib.hid (fun a1 B w (R1 : FReads .i64 w a1 Pk.wid) (R2 : FReads .u64 w (some ⟨B, 0, none⟩) (vs.map Int.ofNat)) => pack_any a1 (some ⟨B, 0, none⟩) 7 7 Pk.wid vs (by decide) (by omega) (by decide) (by decide) (fun j hj => by have := hb j (by omega); omega) w R1 R2)
  rw [hv, show Pk.wid.length = 7 from rfl] at PA
  obtain ⟨V, hV⟩ : ∃ V : ByteArray, ⟨(Fld.packV Pk.wid vs).toArray⟩ = V := ⟨_, rfl⟩
  obtain ⟨E, hE⟩ : ∃ E, Fld.packE Pk.wid vs = E := ⟨_, rfl⟩
  rw [hV, hE] at PA
  rw [hV]
  clear cl hv hb R hV hE
  obtain ⟨i0, hi, hz0, hz1, hz2⟩ := info_parts info_u64
  go_enter Try.func47, Try.ntmps47
  go_wp2_with (at_make; refine wpList_make_full _ rfl _ _ 106 rfl w.heap.size 107 i0 (.int .u64 0) 1 Try.underlying106 hi hz0 hz1 .i64 .i64 _ _ 7 rfl rfl (by first | rfl | omega) (by first | rfl | omega) (by rw [hz2]; omega) (by unfold maxLen; omega) (Nat.le_refl _) ?_; intro w2 hown hgrow)
  obtain ⟨hnu, hBf⟩ := nums_made hown (fun j hj => made_zero64 7 j hj)
  have hb2 : Below w.heap.size w w2 := (Below.refl _ _).grown hgrow (Nat.le_refl _) (fun k e => by cases e)
  obtain ⟨B, hB⟩ : ∃ B, w.heap.size = B := ⟨_, rfl⟩
  rw [hB] at hnu hBf hb2 lb ⊢
  have HNU := Lib.hid hnu
  have HB2 := Lib.hid hb2
  have HBE := Lib.hid hB
  clear hb2 hown hgrow hB hi hz0 hz1 hz2 hnu
  go_loopw [13] (fun i wr => ∃ k : Nat, k ≤ 7 ∧ i = .int .i64 k ∧ Nums wr B 7 (fun j => if j < k then vs.getD j 0 else 0) ∧ Below B w wr ∧ B < wr.heap.size) (fun i _ => 7 - (intOf i).toNat)
  case atStart => exact ⟨0, Nat.zero_le _, rfl, HNU.out, HB2.out, hBf⟩
  case round =>
    obtain ⟨k, hk, rfl, hnu, hB, hBs⟩ := hrel
    by_cases hlt : k < 7
    · have q3 := (hB.cell (p := ⟨b, o + k, none⟩) lb).trans (CL.out k hlt)
      have x1 := HBD.out k hlt
      obtain ⟨x, hx⟩ : ∃ x, vs.getD k 0 = x := ⟨_, rfl⟩
      rw [hx] at q3 x1
      obtain ⟨n1, n2⟩ := hnu k hlt
      have NN := Lib.hid (hnu.set (g := fun j => if j < k + 1 then vs.getD j 0 else 0) k x hlt (by rw [if_pos (by omega)]; exact hx) (fun j hj hjk => by
        by_cases e : j < k
        · rw [if_pos e, if_pos (by omega)]
        · rw [if_neg e, if_neg (by omega)]))
      have BB := Lib.hid (hB.setCell (p := ⟨B, k, none⟩) (Nat.le_refl _) (.int .u64 x))
      clear hnu hB hx
      go_wp2_with fail
      go_roundw
      case rel => exact ⟨k + 1, by omega, by go_num, NN.out, BB.out, by simpa [World.setCell] using hBs⟩
      case measure => simp [intOf]; omega
    · obtain rfl : k = 7 := by omega
      have HN := Lib.hid (show Nums wr B 7 (fun j => vs.getD j 0) from fun j hj => by
        have h := hnu j hj
        dsimp only at h
        rwa [if_pos hj] at h)
      have HB3 := Lib.hid hB
      have BS := Lib.hid hBs
      clear hnu hB hBs hlt hk
      go_wp2_with fail
      (with_reducible refine (HWD.out _).mono ?_)
      rintro e w4 ⟨B4, rfl, F4, h4⟩
      have R2 := nums_reads HV.out (HN.out.below h4 BS.out) (Nat.lt_of_lt_of_le BS.out h4.size)
      have P2 := Lib.hid (PA.out _ B w4 F4 R2)
      have B5 := Lib.hid (HB3.out.trans (h4.mono (by have := BS.out; omega)))
      clear F4 R2 h4
      go_wp2_with fail
      (with_reducible refine P2.out.mono ?_)
      rintro e w5 ⟨rfl, h5⟩
      have B6 := Lib.hid (B5.out.trans (h5.mono (by have := HBE.out; have := B5.out.size; omega)))
      clear h5
      go_wp2_with fail
      go_ret
      exact ⟨rfl, by rw [HBE.out]; exact B6.out⟩
end Go.Proofs.Ytphkaambodecdaa
