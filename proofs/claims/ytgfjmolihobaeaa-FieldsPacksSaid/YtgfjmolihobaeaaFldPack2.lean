/- The contract of package fields' Pack over this program, for all widths and values. -/
import Derived.Test.YtgfjmolihobaeaaFldPack
namespace Go.Proofs.Ytgfjmolihobaeaa
open Go.RowKit Go.Shelf
set_option linter.unusedVariables false

set_option maxHeartbeats 1000000 in
theorem pack_len (a1 a2 : Option Addr) (n1 cap1 n2 cap2 : Nat) (h : n2 ≠ n1) (h1 : n1 ≤ 600) (h2 : n2 ≤ 600) (w : World) :
    Calls Try.prog 19 #[.slice a1 n1 cap1, .slice a2 n2 cap2] w fun e w' => e = .returned (.tuple #[.string { data := #[] }, .int .i64 2]) ∧ w = w' := by
  have k1 : ((n2 : Int) == (n1 : Int)) = false := by simp; omega
  have k2 : ((n2 : Int) != (n1 : Int)) = true := by simp; omega
  go_enter Try.func19, Try.ntmps19
  go_wp2_with fail
  go_ret2
  exact ⟨rfl, rfl⟩

set_option maxHeartbeats 1000000 in
theorem pack_bad (a1 a2 : Option Addr) (cap1 cap2 : Nat) (zs : List Int) (n : Nat) (hn : zs.length = n) (hl : n ≤ 600) (hw : Fld.allW zs = false) (w : World) (R1 : Reads .i64 w a1 zs) :
    Calls Try.prog 19 #[.slice a1 n cap1, .slice a2 n cap2] w fun e w' => e = .returned (.tuple #[.string { data := #[] }, .int .i64 2]) ∧ w = w' := by
  have A := Lib.hid (areWidths_any a1 cap1 zs (by omega) w R1)
  rw [hw, hn] at A
  clear hw hn R1
  go_enter Try.func19, Try.ntmps19
  go_wp2_with fail
  (with_reducible refine A.out.mono ?_)
  rintro e w' ⟨rfl, rfl⟩
  go_wp2_with fail
  go_ret2
  exact ⟨rfl, rfl⟩

set_option maxHeartbeats 1000000 in
theorem pack_empty (a1 a2 : Option Addr) (cap1 cap2 : Nat) (hm1 : cap1 ≤ 9223372036854775807) (w : World) :
    Calls Try.prog 19 #[.slice a1 0 cap1, .slice a2 0 cap2] w fun e w' => e = .returned (.tuple #[.string { data := #[] }, .int .i64 0]) ∧ Below w.heap.size w w' := by
  have A : Hid (Calls Try.prog 39 #[.slice a1 0 cap1] w fun e w' => e = .returned (.bool true) ∧ w = w') := Lib.hid (areWidths_any a1 cap1 [] (by simp) w (.inl rfl))
  have T : Hid (∀ a c w, Calls Try.prog 40 #[.slice a 0 c] w fun e w' => e = .returned (.int .i64 0) ∧ w = w') := Lib.hid (fun a c w => total_any a c [] (by simp) (by simp) w (.inl rfl))
  have FI : Hid (Calls Try.prog 41 #[.slice a1 0 cap1] w (Filled [] w)) := Lib.hid (filled_any a1 cap1 [] (by simp) (by simp) hm1 (by simp) w (.inl rfl))
  go_enter Try.func19, Try.ntmps19
  go_wp2_with fail
  (with_reducible refine A.out.mono ?_)
  rintro e w' ⟨rfl, rfl⟩
  go_wp2_with fail
  (with_reducible refine (T.out _ _ _).mono ?_)
  rintro e w' ⟨rfl, rfl⟩
  go_wp2_with fail
  refine wp_loop_rounds 1 ?_
  rw [rounds_succ]
  go_wp2_with fail
  (with_reducible refine FI.out.mono ?_)
  rintro e w1 ⟨a', cap', rfl, hfc, hfr, hfb⟩
  have e0 : (Fld.fill []).length = 0 := rfl
  rw [e0]
  have HFB := Lib.hid hfb
  clear hfb hfr hfc e0
  go_wp2_with fail
  (with_reducible refine (T.out _ _ _).mono ?_)
  rintro e w' ⟨rfl, rfl⟩
  obtain ⟨i0, hi, hz0, hz1, hz2⟩ := info_parts info_u8
  go_wp2_with (at_make; refine wpList_make_full _ rfl _ _ 59 rfl w1.heap.size 5 i0 (.int .u8 0) 1 Try.underlying59 hi hz0 hz1 .i64 .i64 _ _ 0 rfl rfl rfl rfl (by rw [hz2]; omega) (by unfold maxLen; omega) (Nat.le_refl _) ?_; intro w2 hown hgrow)
  have HB2 := Lib.hid (show Below w.heap.size w w2 from HFB.out.trans (((Below.refl _ _).grown hgrow (Nat.le_refl _) (fun k e => by cases e)).mono HFB.out.size))
  have bb : (convert 59 9 (.slice (some ⟨w1.heap.size, 0, none⟩) 0 0)).run Try.prog w2 = .ok (.string { data := #[] }) w2 := back_bytes w2 w1.heap.size 0 [] (fun j h => by simp at h)
  clear hown hgrow hi hz0 hz1 hz2
  refine wp_loop_rounds 1 ?_
  rw [rounds_succ]
  go_wp2_with fail
  go_ret2
  exact ⟨rfl, HB2.out⟩

theorem pack_any (a1 a2 : Option Addr) (cap1 cap2 : Nat) (zs : List Int) (vs : List Nat) (hz : zs.length ≤ 500) (hv : vs.length ≤ 500) (hc1 : zs.length ≤ cap1) (hm1 : cap1 ≤ 9223372036854775807) (vb : ∀ j, j < vs.length → vs.getD j 0 < 18446744073709551616)
    (w : World) (R1 : Reads .i64 w a1 zs) (R2 : Reads .u64 w a2 (vs.map Int.ofNat)) :
    Calls Try.prog 19 #[.slice a1 zs.length cap1, .slice a2 vs.length cap2] w fun e w' => e = .returned (.tuple #[.string ⟨(Fld.packV zs vs).toArray⟩, .int .i64 (Fld.packE zs vs)]) ∧ Below w.heap.size w w' := by
  by_cases hlen : vs.length = zs.length
  · by_cases hw : Fld.allW zs = true
    · by_cases h0 : zs.length = 0
      · have e1 : zs = [] := List.eq_nil_of_length_eq_zero h0
        have e2 : vs = [] := List.eq_nil_of_length_eq_zero (by omega)
        subst e1
        subst e2
        exact pack_empty a1 a2 cap1 cap2 hm1 w
      · obtain ⟨b1, o1, rfl, l1, c1⟩ := R1.cell (by omega)
        obtain ⟨b2, o2, rfl, l2, c2⟩ := R2.cell (by simp; omega)
        have P := pack_ok b1 o1 cap1 b2 o2 cap2 zs vs zs.length rfl hlen (by omega) hz hc1 hm1 (fun j hj => vb j (by omega)) hw w l1 l2 (fun j hj => by rw [c1 j hj, (Fld.nats_get hw j hj).1])
          (fun j hj => by rw [c2 j (by simp; omega), getD_ofNat _ _ (by omega)])
        rw [hlen]
        have e1 : Fld.packE zs vs = Fld.packK (Fld.nats zs) vs := by unfold Fld.packE Fld.packK; rw [if_pos ⟨hlen, hw⟩]
        have e2 : Fld.packV zs vs = Fld.packS (Fld.nats zs) vs := by
          unfold Fld.packV
          rw [e1]
          unfold Fld.packK Fld.packS
          split <;> simp
        rw [e1, e2]
        exact P
    · have hw0 : Fld.allW zs = false := by simpa using hw
      have e1 : Fld.packE zs vs = 2 := by unfold Fld.packE; rw [if_neg (by intro h; exact hw h.2)]
      have e2 : Fld.packV zs vs = [] := by unfold Fld.packV; rw [e1, if_neg (by omega)]
      rw [e1, e2, hlen, empty_str]
      exact (pack_bad a1 a2 cap1 cap2 zs zs.length rfl (by omega) hw0 w R1).mono fun e w' ⟨he, hw⟩ => ⟨he, by rw [← hw]; exact Below.refl _ _⟩
  · have e1 : Fld.packE zs vs = 2 := by unfold Fld.packE; rw [if_neg (by intro h; exact hlen h.1)]
    have e2 : Fld.packV zs vs = [] := by unfold Fld.packV; rw [e1, if_neg (by omega)]
    rw [e1, e2, empty_str]
    exact (pack_len a1 a2 zs.length cap1 vs.length cap2 hlen (by omega) (by omega) w).mono fun e w' ⟨he, hw⟩ => ⟨he, by rw [← hw]; exact Below.refl _ _⟩
end Go.Proofs.Ytgfjmolihobaeaa
