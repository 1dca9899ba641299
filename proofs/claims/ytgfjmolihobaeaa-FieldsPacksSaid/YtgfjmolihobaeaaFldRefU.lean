/- The contracts of the reference's Pack (all widths) and Unpack over this program. -/
import Derived.Test.YtgfjmolihobaeaaFldRefL
import Derived.Test.YtgfjmolihobaeaaFldUnpack
import Derived.RangeFuncBox
namespace Go.Proofs.Ytgfjmolihobaeaa
open Go.RowKit Go.Shelf
set_option linter.unusedVariables false

set_option maxHeartbeats 1000000 in
theorem rpack_empty (a1 a2 : Option Addr) (cap1 cap2 : Nat) (w : World) :
    Calls Try.prog 20 #[.slice a1 0 cap1, .slice a2 0 cap2] w fun e w' => e = .returned (.tuple #[.string { data := #[] }, .int .i64 0]) ∧ Below w.heap.size w w' := by
  have A : Hid (Calls Try.prog 43 #[.slice a1 0 cap1] w fun e w' => e = .returned (.bool true) ∧ w = w') := Lib.hid (rall_any a1 cap1 [] (by simp) w (.inl rfl))
  have T : Hid (∀ a c w, Calls Try.prog 44 #[.slice a 0 c] w fun e w' => e = .returned (.int .i64 0) ∧ w = w') := Lib.hid (fun a c w => rbits_any a c [] (by simp) (by simp) w (.inl rfl))
  go_enter Try.func20, Try.ntmps20
  go_wp2_with fail
  (with_reducible refine A.out.mono ?_)
  rintro e w' ⟨rfl, rfl⟩
  go_wp2_with fail
  (with_reducible refine (T.out _ _ _).mono ?_)
  rintro e w' ⟨rfl, rfl⟩
  obtain ⟨i0, hi, hz0, hz1, hz2⟩ := info_parts info_u8
  go_wp2_with (at_make; refine wpList_make_full _ rfl _ _ 59 rfl w.heap.size 5 i0 (.int .u8 0) 1 Try.underlying59 hi hz0 hz1 .i64 .i64 _ _ 0 rfl rfl (by rfl) (by rfl) (by rw [hz2]; omega) (by unfold maxLen; omega) (Nat.le_refl _) ?_; intro w2 hown hgrow; have hbb : (convert 59 9 (.slice (some ⟨w.heap.size, 0, none⟩) 0 0)).run Try.prog w2 = .ok (.string { data := #[] }) w2 := back_bytes w2 w.heap.size 0 [] (fun j h => by simp at h); have HB2 := Lib.hid (show Below w.heap.size w w2 from (Below.refl _ _).grown hgrow (Nat.le_refl _) (fun k e => by cases e)); clear hown hgrow hi hz0 hz1 hz2)
  refine wp_loop_rounds 1 ?_
  rw [rounds_succ]
  go_wp2_with fail
  go_ret2
  exact ⟨rfl, HB2.out⟩

theorem rpack_any (a1 a2 : Option Addr) (cap1 cap2 : Nat) (zs : List Int) (vs : List Nat) (hz : zs.length ≤ 500) (hv : vs.length ≤ 500) (vb : ∀ j, j < vs.length → vs.getD j 0 < 18446744073709551616)
    (w : World) (R1 : Reads .i64 w a1 zs) (R2 : Reads .u64 w a2 (vs.map Int.ofNat)) :
    Calls Try.prog 20 #[.slice a1 zs.length cap1, .slice a2 vs.length cap2] w fun e w' => e = .returned (.tuple #[.string ⟨(Fld.packV zs vs).toArray⟩, .int .i64 (Fld.packE zs vs)]) ∧ Below w.heap.size w w' := by
  by_cases hlen : vs.length = zs.length
  · by_cases hw : Fld.allW zs = true
    · by_cases h0 : zs.length = 0
      · have e1 : zs = [] := List.eq_nil_of_length_eq_zero h0
        have e2 : vs = [] := List.eq_nil_of_length_eq_zero (by omega)
        subst e1
        subst e2
        exact rpack_empty a1 a2 cap1 cap2 w
      · obtain ⟨b1, o1, rfl, l1, c1⟩ := R1.cell (by omega)
        obtain ⟨b2, o2, rfl, l2, c2⟩ := R2.cell (by simp; omega)
        have P := rpack_ok b1 o1 cap1 b2 o2 cap2 zs vs zs.length rfl hlen (by omega) hz (fun j hj => vb j (by omega)) hw w l1 l2 (fun j hj => by rw [c1 j hj, (Fld.nats_get hw j hj).1])
          (fun j hj => by rw [c2 j (by simp; omega), getD_ofNat _ _ (by omega)])
        rw [hlen]
        have e1 : Fld.packE zs vs = Fld.packK (Fld.nats zs) vs := by unfold Fld.packE Fld.packK; rw [if_pos ⟨hlen, hw⟩]
        have e2 : Fld.packV zs vs = Fld.packS (Fld.nats zs) vs := by
          unfold Fld.packV
          rw [e1]
          unfold Fld.packK Fld.packS
          split <;> simp
        rw [e1, e2]
        exact P
    · have hw0 : Fld.allW zs = false := by simpa using hw
      have e1 : Fld.packE zs vs = 2 := by unfold Fld.packE; rw [if_neg (by intro h; exact hw h.2)]
      have e2 : Fld.packV zs vs = [] := by unfold Fld.packV; rw [e1, if_neg (by omega)]
      rw [e1, e2, hlen, empty_str]
      exact (rpack_bad a1 a2 cap1 cap2 zs zs.length rfl (by omega) hw0 w R1).mono fun e w' ⟨he, hw⟩ => ⟨he, by rw [← hw]; exact Below.refl _ _⟩
  · have e1 : Fld.packE zs vs = 2 := by unfold Fld.packE; rw [if_neg (by intro h; exact hlen h.1)]
    have e2 : Fld.packV zs vs = [] := by unfold Fld.packV; rw [e1, if_neg (by omega)]
    rw [e1, e2, empty_str]
    exact (rpack_len a1 a2 zs.length cap1 vs.length cap2 hlen (by omega) (by omega) w).mono fun e w' ⟨he, hw⟩ => ⟨he, by rw [← hw]; exact Below.refl _ _⟩

set_option maxHeartbeats 1000000 in
theorem runp_bad (a : Option Addr) (cap : Nat) (zs : List Int) (s : ByteArray) (n : Nat) (hn : zs.length = n) (hl : n ≤ 500) (hs : s.size ≤ 5000) (hw : Fld.allW zs = false) (w : World) (R : Reads .i64 w a zs) :
    Calls Try.prog 22 #[.slice a n cap, .string s] w (Unpacked zs s.data.toList w) := by
  have A := Lib.hid (rall_any a cap zs (by omega) w R)
  rw [hw, hn] at A
  have L := Lib.hid (fun w => rlong_any s (by omega) w)
  rw [decide_eq_false (by omega)] at L
  have Q := Lib.hid (unpacked_no (l := s.data.toList) (show Fld.unpE zs s.data.toList = 2 by unfold Fld.unpE; rw [hw]; rfl) (by omega) (Below.refl w.heap.size w))
  clear hw hn R
  go_enter Try.func22, Try.ntmps22
  go_wp2_with fail
  (with_reducible refine (L.out _).mono ?_)
  rintro e w' ⟨rfl, rfl⟩
  go_wp2_with fail
  (with_reducible refine A.out.mono ?_)
  rintro e w' ⟨rfl, rfl⟩
  go_wp2_with fail
  go_ret2
  exact Q.out

set_option maxHeartbeats 1000000 in
theorem runp_len (a : Option Addr) (cap : Nat) (zs : List Int) (s : ByteArray) (n : Nat) (hn : zs.length = n) (hl : n ≤ 500) (hs : s.size ≤ 5000) (hw : Fld.allW zs = true) (hne : s.size ≠ (Fld.tot (Fld.nats zs) + 7) / 8) (w : World) (R : Reads .i64 w a zs) :
    Calls Try.prog 22 #[.slice a n cap, .string s] w (Unpacked zs s.data.toList w) := by
  have ls : s.data.toList.length = s.size := by simp
  have A := Lib.hid (rall_any a cap zs (by omega) w R)
  rw [hw, hn] at A
  have L := Lib.hid (fun w => rlong_any s (by omega) w)
  rw [decide_eq_false (by omega)] at L
  have uE : Fld.unpE zs s.data.toList = 6 := by unfold Fld.unpE; rw [if_pos hw, if_neg (by rw [ls]; intro h; exact hne h.1)]
  have Q := Lib.hid (unpacked_no uE (by omega) (Below.refl w.heap.size w))
  have nl : (Fld.nats zs).length = n := by rw [Fld.nats_length, hn]
  have nb : ∀ j, j < (Fld.nats zs).length → (Fld.nats zs).getD j 0 ≤ 64 := fun j hj => (Fld.nats_get hw j (by omega)).2.2
  have R2 : Reads .i64 w a ((Fld.nats zs).map Int.ofNat) := by rw [Fld.nats_map hw]; exact R
  have T := Lib.hid (rbits_any a cap (Fld.nats zs) (by omega) nb w R2)
  have tb := Fld.tot_le (Fld.nats zs) 64 nb (Fld.nats zs).length (Nat.le_refl _)
  rw [List.take_length] at tb
  obtain ⟨t, ht⟩ : ∃ t, Fld.tot (Fld.nats zs) = t := ⟨_, rfl⟩
  rw [ht] at T tb hne
  rw [nl] at T
  have t1 : t ≤ 40000 := by omega
  have q3 : ((s.size : Int) == ((t : Int) + 7) / 8) = false := by simp; omega
  have q4 : ((s.size : Int) != ((t : Int) + 7) / 8) = true := by simp; omega
  clear hw hn R R2 tb nb nl hne ht ls uE
  go_enter Try.func22, Try.ntmps22
  go_wp2_with fail
  (with_reducible refine (L.out _).mono ?_)
  rintro e w' ⟨rfl, rfl⟩
  go_wp2_with fail
  (with_reducible refine A.out.mono ?_)
  rintro e w' ⟨rfl, rfl⟩
  go_wp2_with fail
  (with_reducible refine T.out.mono ?_)
  rintro e w' ⟨rfl, rfl⟩
  go_wp2_with fail
  go_ret2
  exact Q.out

theorem runp_values {zs : List Int} {l : List UInt8} {w w' : World} {a : Option Addr} {n cap base e : Nat} (h : Fld.unpE zs l = 0) (hn : (Fld.nats zs).length = n) (ho : w'.ownsRow base e 1 (.slice a n cap) n (((Fld.vals (Fld.nats zs) l).map Int.ofNat).map (Value.int .u64))) (hb : Below w.heap.size w w') :
    Unpacked zs l w (.returned (.tuple #[.slice a n cap, .int .i64 0])) w' := by
  have e : Fld.unpV zs l = Fld.vals (Fld.nats zs) l := by unfold Fld.unpV; rw [if_pos h]
  have el : (Fld.unpV zs l).length = n := by rw [e, Fld.vals_length, hn]
  obtain ⟨r1, _, r3⟩ := reads_own ho
  exact ⟨a, cap, by rw [el, h], by rw [el]; exact r3, by rw [e]; exact r1, hb⟩
end Go.Proofs.Ytgfjmolihobaeaa
