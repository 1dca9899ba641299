/- The contracts of package fields' numberBits and write over this program. -/
import Derived.Test.YtgfjmolihobaeaaFldRead
import Derived.Test.YtgfjmolihobaeaaStillIn
import Derived.Lib.QuoteBits
import Derived.Laws.BitsAllLaws
namespace Go.Proofs.Ytgfjmolihobaeaa
open Go.RowKit Go.Shelf
attribute [local go_sem] Oper.semAt_some
set_option linter.unusedVariables false

theorem nbit_walk (v i : Nat) (hv : v < 18446744073709551616) : bits .and .u64 ((v : Int) / 2 ^ i) 1 = ((v / 2 ^ i % 2 : Nat) : Int) := by
  have d : v / 2 ^ i ≤ v := Nat.div_le_self _ _
  have e : ((v : Int) / 2 ^ i) = ((v / 2 ^ i : Nat) : Int) := by
    rw [Int.natCast_ediv]; simp
  rw [e]
  generalize v / 2 ^ i = q at *
  have := bits_and_u64_nat q 1 (by omega) (by omega)
  rw [Nat.and_one_is_mod] at this
  exact this

set_option maxRecDepth 100000 in
set_option maxHeartbeats 2000000 in
theorem numberBits1_in (F : Fence) (n : Nat) (hF : F.fn 53) (hro : F.round = none) (hn : 1 ≤ n) (l Bw Bv lo hi wd v : Nat) (hv : v < 18446744073709551616) (hwd : wd ≤ 64)
    (hw : lo ≤ Bw ∧ Bw < hi) (hb : lo ≤ Bv ∧ Bv < hi) (J Jx : List Fld.Bit → World → Prop)
    (hY : ∀ pre x W, J pre W → pre.length < wd → YieldAt F (n - 1) Try.prog l #[.int .u64 (x.1 : Nat)] W fun e W' =>
      (e = .returned (.bool true) ∧ J (pre ++ [x]) W' ∧ Mid lo hi W W') ∨ (e = .returned (.bool false) ∧ Jx (pre ++ [x]) W'))
    (W : World) (c1 : W.cell? ⟨Bw, 0, none⟩ = some (.int .i64 wd)) (c2 : W.cell? ⟨Bv, 0, none⟩ = some (.int .u64 v)) (h0 : J [] W) :
    CallsIn F n Try.prog 53 #[.func (.yield l) #[] #[], .pointer (some ⟨Bw, 0, none⟩), .pointer (some ⟨Bv, 0, none⟩)] W fun e W' => (∃ v, e = .returned v) ∧
      ((∃ ys, ys = Fld.upto (Fld.nbit v wd) wd ∧ J ys W') ∨ (∃ pre, (∃ k, k ≤ wd ∧ pre = Fld.upto (Fld.nbit v wd) k) ∧ Jx pre W')) := by
  refine callsIn_of_wp Try.func53 rfl hF ?_ hro
  simp only [Try.ntmps53, List.size_toArray, List.length_cons, List.length_nil, Nat.reduceAdd, Nat.reduceSub, Array.replicate_succ, Array.replicate_zero, List.push_toArray, List.append_toArray, List.nil_append, List.cons_append]
  gi_wp2
  gi_loopw [4] (fun i wr => ∃ k : Nat, k ≤ wd ∧ i = .int .i64 ((wd : Int) - 1 - (k : Int)) ∧ J (Fld.upto (Fld.nbit v wd) k) wr ∧ Mid lo hi W wr)
    (fun i _ => (intOf i + 1).toNat)
  case atStart => exact ⟨0, Nat.zero_le _, by go_num, h0, Mid.refl _ _ _⟩
  case round =>
    obtain ⟨k, hk, rfl, hJs, hnx⟩ := hrel
    have d1 := hnx _ _ _ hw.1 hw.2 c1
    have d2 := hnx _ _ _ hb.1 hb.2 c2
    by_cases hlt : k < wd
    · obtain ⟨fn, tmps, assign, body, hy, hR⟩ := hY _ (Fld.nbit v wd k) wr hJs (by rw [Fld.upto_length]; exact hlt)
      obtain ⟨j, hj⟩ : ∃ j : Nat, wd - 1 - k = j := ⟨_, rfl⟩
      have q2 := nbit_walk v j hv
      have q3 : ((Fld.nbit v wd k).1 : Int) = (v : Int) / 2 ^ j % 2 := by
        show ((v / 2 ^ (wd - 1 - k) % 2 : Nat) : Int) = _
        rw [hj]; simp
      rw [q3] at hy
      have q4 := Fld.upto_succ (Fld.nbit v wd) k
      rw [← q4] at hR
      clear q3
      have Q4 := Lib.hid q4
      clear q4
      have hj2 : (wd : Int) - 1 - (k : Int) = (j : Int) := by omega
      rw [hj2]
      have hj3 : j < 64 := by omega
      have Q5 := Lib.hid hj2
      have Q6 := Lib.hid hj
      clear hj hj2
      gi_wp2
      refine hR.mono ?_
      rintro e W3 (⟨rfl, hJ3, hk3⟩ | ⟨rfl, hJx3⟩)
      · gi_wp2
        go_roundw
        case rel => exact ⟨k + 1, by omega, by have := Q5.out; rw [show (wd : Int) - 1 - ((k + 1 : Nat) : Int) = (j : Int) - 1 by omega], hJ3, hnx.trans hk3⟩
        case measure => simp [intOf]
      · gi_wp2
        refine bodyPost_ret (results_none rfl _ _ _) rfl ?_
        exact ⟨⟨_, rfl⟩, .inr ⟨_, ⟨k + 1, by omega, rfl⟩, hJx3⟩⟩
    · obtain rfl : k = wd := by omega
      have e : (k : Int) - 1 - (k : Int) = -1 := by omega
      rw [e]
      clear e
      gi_wp2
      go_end0
      exact ⟨⟨_, rfl⟩, .inl ⟨_, rfl, hJs⟩⟩

set_option maxHeartbeats 1000000 in
theorem numberBits_in (F : Fence) (n : Nat) (hF : F.fn 51) (hro : F.round = none) (v wd : Int) (w : World) :
    CallsIn F n Try.prog 51 #[.int .u64 v, .int .i64 wd] w fun e w' => e = .returned (.func (.func 53) #[] #[.pointer (some ⟨w.heap.size + 1, 0, none⟩), .pointer (some ⟨w.heap.size, 0, none⟩)]) ∧
      w' = (w.alloc (.cells #[.int .u64 v] 23)).alloc (.cells #[.int .i64 wd] 3) := by
  refine callsIn_of_wp Try.func51 rfl hF ?_ hro
  simp only [Try.ntmps51, List.size_toArray, List.length_cons, List.length_nil, Nat.reduceAdd, Nat.reduceSub, Array.replicate_succ, Array.replicate_zero, List.push_toArray, List.append_toArray, List.nil_append, List.cons_append]
  gi_wp2
  go_ret
  exact ⟨rfl, rfl⟩

/-- The iterator of a number hands on its bits, as long as the boxes of its variables stay. -/
theorem numberBits_stops (F : Fence) (n : Nat) (hF : F.fn 53) (hro : F.round = none) (hn : 1 ≤ n) (lo v wd : Nat) (hv : v < 18446744073709551616) (hwd : wd ≤ 64) (w : World) (hz : w.heap.size = lo + 2)
    (c1 : w.cell? ⟨lo, 0, none⟩ = some (.int .u64 v)) (c2 : w.cell? ⟨lo + 1, 0, none⟩ = some (.int .i64 wd)) :
    SeqStopsK F n Try.prog 53 #[.pointer (some ⟨lo + 1, 0, none⟩), .pointer (some ⟨lo, 0, none⟩)] (fun x : Fld.Bit => #[Value.int .u64 (x.1 : Nat)]) (Mid lo (lo + 2))
      (fun ys => ys = Fld.upto (Fld.nbit v wd) wd) (fun _ => True) wd w := fun l J Jx W hW _ _ hY h0 => by
  have g1 := (hW.cell (p := ⟨lo, 0, none⟩) (by simp; omega)).trans c1
  have g2 := (hW.cell (p := ⟨lo + 1, 0, none⟩) (by simp; omega)).trans c2
  refine (numberBits1_in F n hF hro hn l (lo + 1) lo lo (lo + 2) wd v hv hwd ⟨by omega, by omega⟩ ⟨by omega, by omega⟩ J Jx hY W g2 g1 h0).mono ?_
  rintro e W' ⟨he, h | ⟨pre, _, hj⟩⟩
  · exact ⟨he, .inl h⟩
  · exact ⟨he, .inr ⟨pre, trivial, hj⟩⟩

theorem addr_ne {b o b' o' : Nat} (h : b ≠ b') : (⟨b, o, none⟩ : Addr) ≠ ⟨b', o', none⟩ := fun e => h (congrArg Addr.block e)
theorem addr_ne_off {b o b' o' : Nat} (h : o ≠ o') : (⟨b, o, none⟩ : Addr) ≠ ⟨b', o', none⟩ := fun e => h (congrArg Addr.off e)
theorem setB_all : ∀ y, y < 256 → ∀ d, d < 8 → ∀ x, x < 2 → (y &&& (255 - 2 ^ d)) ||| (x * 2 ^ d) = Fld.setB y d x ∧ Fld.setB y d x < 256 := by decide +kernel
theorem set_walk (y d x : Nat) (hy : y < 256) (hd : d ≤ 7) (hx : x < 2) :
    bits .or .u8 (bits .andNot .u8 (y : Int) (IntKind.u8.wrap (2 ^ d))) (IntKind.u8.wrap (IntKind.u8.wrap (x : Int) * 2 ^ d)) = (Fld.setB y d x : Int) := by
  have p1 : 2 ^ d ≤ 2 ^ 7 := Nat.pow_le_pow_right (by omega) hd
  have e0 : ((2 : Int) ^ d) = ((2 ^ d : Nat) : Int) := by simp
  have p2 : x * 2 ^ d ≤ 1 * 2 ^ 7 := Nat.mul_le_mul (by omega) p1
  have ea : IntKind.u8.wrap ((2 : Int) ^ d) = ((2 ^ d : Nat) : Int) := by
    rw [e0]
    generalize 2 ^ d = t at *
    rw [IntKind.wrap_u8]; omega
  have eb : IntKind.u8.wrap (x : Int) = (x : Int) := by rw [IntKind.wrap_u8]; omega
  have ec : IntKind.u8.wrap ((x : Int) * 2 ^ d) = ((x * 2 ^ d : Nat) : Int) := by
    rw [e0, ← Int.natCast_mul]
    generalize x * 2 ^ d = t at *
    rw [IntKind.wrap_u8]; omega
  rw [ea, eb, ec, u8_andNot_nat y (2 ^ d) hy (by omega)]
  have l : y &&& (255 - 2 ^ d) ≤ y := Nat.and_le_left
  rw [u8_or_nat _ _ (by omega) (by omega), (setB_all y hy d (by omega) x hx).1]

theorem Mid.drew {lo hi : Nat} {A B : World} (h : Mid lo hi A B) : Mid lo hi A B.drew := h
/-- The block b holds the bytes of l in its first cells, and they may be written. -/
def Holds (W : World) (b : Nat) (l : List UInt8) : Prop := ∀ j, j < l.length → W.cell? ⟨b, j, none⟩ = some (.int .u8 ((l.getD j 0).toNat : Nat)) ∧ W.frozen? ⟨b, j, none⟩ = false

set_option maxRecDepth 100000 in
set_option maxHeartbeats 4000000 in
theorem write_in (n : Nat) (hn : 3 ≤ n)
    (b cap p wd v n₀ : Nat) (l : List UInt8) (hl : l.length ≤ 70000) (hin : p + wd ≤ 8 * l.length) (hwd : wd ≤ 64) (hv : v < 18446744073709551616) (w : World) (hb : b < w.heap.size) (hn₀ : n₀ ≤ b) (hh : Holds w b l) :
    CallsIn Fence.wide n Try.prog 42 #[.slice (some ⟨b, 0, none⟩) l.length cap, .int .i64 p, .int .i64 wd, .int .u64 v] w fun e W' => (∃ v, e = .returned v) ∧ Holds W' b (Fld.put l p wd v wd) ∧ Below n₀ w W' := by
  have hn1 : 1 ≤ n := by omega
  refine callsIn_of_wp_marks Try.func42 rfl trivial ?_ rfl
  simp only [Try.ntmps42, List.size_toArray, List.length_cons, List.length_nil, Nat.reduceAdd, Nat.reduceSub, Array.replicate_succ, Array.replicate_zero, List.push_toArray, List.append_toArray, List.nil_append, List.cons_append]
  gi_wp2_with (refine ⟨trivial, ?_⟩; gi_at_call 51; refine (numberBits_in Fence.wide (n - 1) trivial rfl _ _ _).mono ?_; rintro e w' ⟨rfl, rfl⟩)
  have s1 := cell_new_l w (.slice (some ⟨b, 0, none⟩) l.length cap) 59
  have s2 := cell_new_l (w.alloc (.cells #[.slice (some ⟨b, 0, none⟩) l.length cap] 59)) (.int .i64 p) 3
  have s3 := cell_new_l ((w.alloc (.cells #[.slice (some ⟨b, 0, none⟩) l.length cap] 59)).alloc (.cells #[.int .i64 p] 3)) (.int .u64 v) 23
  have s4 := cell_new_l (((w.alloc (.cells #[.slice (some ⟨b, 0, none⟩) l.length cap] 59)).alloc (.cells #[.int .i64 p] 3)).alloc (.cells #[.int .u64 v] 23)) (.int .i64 wd) 3
  simp only [World.size_alloc] at s2 s3 s4
  have hB0 : Below n₀ w ((((w.alloc (.cells #[.slice (some ⟨b, 0, none⟩) l.length cap] 59)).alloc (.cells #[.int .i64 p] 3)).alloc (.cells #[.int .u64 v] 23)).alloc (.cells #[.int .i64 wd] 3)) :=
    ((((Below.refl _ w).alloc (by omega) _).alloc (by simp; omega) _).alloc (by simp; omega) _).alloc (by simp; omega) _
  refine wpIn_rangeFunc_ownF (F := Fence.wide) Fence.wide_round hn1 (gf := 53) (lb := #[.pointer (some ⟨w.heap.size + 1 + 1 + 1, 0, none⟩), .pointer (some ⟨w.heap.size + 1 + 1, 0, none⟩)]) rfl trivial (enters_of Try.func53 (by kernel_rfl) rfl)
    (numberBits_stops Fence.wide (n - 1) trivial rfl (by omega) (w.heap.size + 1 + 1) v wd hv hwd _ (by simp) (cell_alloc_l _ s3.1) s4.1) (fun h k => h.trans k) (mid_b (by simp)) (Below.refl _ _) (fun _ => rfl)
    (fun pre W => ((W.cell? ⟨w.heap.size, 0, none⟩ = some (.slice (some ⟨b, 0, none⟩) l.length cap) ∧ W.cell? ⟨w.heap.size + 1, 0, none⟩ = some (.int .i64 ((p + pre.length : Nat) : Int)) ∧ W.frozen? ⟨w.heap.size + 1, 0, none⟩ = false) ∧ Holds W b (Fld.puts l p pre)) ∧ Below n₀ w W)
    (fun _ _ _ => False)
    (OwnFrom.and (Own.from (fun s A B row hs hg hr => ⟨⟨cell_kept hs.1.1 hg hr, cell_kept hs.1.2.1 hg hr, (frozen_kept hs.1.2.1 hg hr).trans hs.1.2.2⟩, fun j h => ⟨cell_kept (hs.2 j h).1 hg hr, (frozen_kept (hs.2 j h).1 hg hr).trans (hs.2 j h).2⟩⟩) _) (ownFrom_below (by omega) (by simp; omega)))
    (fun _ _ _ _ _ hs _ _ => hs)
    ⟨⟨⟨cell_alloc_l _ (cell_alloc_l _ (cell_alloc_l _ s1.1)), cell_alloc_l _ (cell_alloc_l _ s2.1), frozen_alloc_l _ (cell_alloc_l _ s2.1) (frozen_alloc_l _ s2.1 s2.2)⟩,
      fun j h => ⟨cell_alloc_l _ (cell_alloc_l _ (cell_alloc_l _ (cell_alloc_l _ (hh j h).1))), frozen_alloc_l _ (cell_alloc_l _ (cell_alloc_l _ (cell_alloc_l _ (hh j h).1))) (frozen_alloc_l _ (cell_alloc_l _ (cell_alloc_l _ (hh j h).1)) (frozen_alloc_l _ (cell_alloc_l _ (hh j h).1) (frozen_alloc_l _ (hh j h).1 (hh j h).2)))⟩⟩, hB0⟩
    (fun x => { tmps := #[.slice (some ⟨b, 0, none⟩) l.length cap, .int .i64 p, .int .i64 wd, .int .u64 v, .pointer (some ⟨w.heap.size, 0, none⟩), .pointer (some ⟨w.heap.size + 1, 0, none⟩), undef, undef, .int .u64 (x.1 : Nat), undef, .int .u64 v, .int .i64 wd,
      .func (.func 53) #[] #[.pointer (some ⟨w.heap.size + 1 + 1 + 1, 0, none⟩), .pointer (some ⟨w.heap.size + 1 + 1, 0, none⟩)], .int .u64 (x.1 : Nat), undef, undef, undef, undef, undef, undef, undef, undef, undef, undef, undef, undef, undef, undef, undef, undef, undef, undef, undef, undef, undef, undef], defers := [] }) ?assign ?body ?done ?stop
  case assign =>
    intro l x W K hK
    gi_wp2
    exact hK
  case body =>
    rintro r pre x W ⟨⟨⟨c1, c2, f2⟩, hh⟩, hB⟩ hlen
    obtain ⟨q, hq⟩ : ∃ q, p + pre.length = q := ⟨_, rfl⟩
    rw [hq] at c2
    have q1 : q / 8 < l.length := by omega
    have q2 : q ≤ 600000 := by omega
    have ml := Fld.puts_length pre l p
    obtain ⟨m, hm⟩ : ∃ m, Fld.puts l p pre = m := ⟨_, rfl⟩
    rw [hm] at hh ml
    obtain ⟨c3, f3⟩ := hh (q / 8) (by omega)
    obtain ⟨d, hd⟩ : ∃ d : Nat, 7 - q % 8 = d := ⟨_, rfl⟩
    obtain ⟨j, hj⟩ : ∃ j : Nat, q / 8 = j := ⟨_, rfl⟩
    have hd7 : d ≤ 7 := by omega
    have e1 : IntKind.i64.wrap (j : Int) = (j : Int) := by rw [IntKind.wrap_i64]; omega
    have e2 : 7 - (q : Int) % 8 = (d : Int) := by omega
    have e3 : (q : Int) / 8 = (j : Int) := by omega
    have jl : j < l.length := by omega
    have jl' : (j : Int) < (l.length : Int) := by omega
    rw [hj] at c3 f3
    obtain ⟨y, hy⟩ : ∃ y : Nat, (m.getD j 0).toNat = y := ⟨_, rfl⟩
    have y8 : y < 256 := by rw [← hy]; exact UInt8.toNat_lt _
    rw [hy] at c3
    have HY := Lib.hid hy
    clear hy
    have HD := Lib.hid hd
    have HJ := Lib.hid hj
    have HQ := Lib.hid hq
    have HM := Lib.hid hm
    have HH := Lib.hid hh
    have ML := Lib.hid ml
    clear hd hj hq hm hh ml
    have e4 := set_walk y d x.1 y8 hd7 x.2
    obtain ⟨z, hz⟩ : ∃ z : Nat, Fld.setB y d x.1 = z := ⟨_, rfl⟩
    rw [hz] at e4
    have HZ := Lib.hid hz
    clear hz
    gi_wp2
    refine wpIn_region_still_tail 16 (by kernel_rfl) (by kernel_rfl) (by kernel_rfl) ?_
    simp only [List.take_succ_cons, List.take_zero, List.drop_succ_cons, List.drop_zero]
    repeat still_step
    refine wpStill_nil ?_
    gi_wp2
    have k1 : (⟨b, j, none⟩ : Addr) ≠ ⟨w.heap.size, 0, none⟩ := addr_ne (by omega)
    have k2 : (⟨w.heap.size + 1, 0, none⟩ : Addr) ≠ ⟨w.heap.size, 0, none⟩ := addr_ne (by omega)
    have k3 : (⟨b, j, none⟩ : Addr) ≠ ⟨w.heap.size + 1, 0, none⟩ := addr_ne (by omega)
    refine ⟨((KeepsOthers.setCell _ _ _).trans (KeepsOthers.setCell _ _ _)).trans (KeepsOthers.drew _), (((Mid.refl _ _ _).setCell _ _ _ (by omega)).setCell _ _ _ (by omega)).drew, ⟨⟨?_, ?_, ?_⟩, ?_⟩, ((hB.setCell (p := ⟨b, j, none⟩) hn₀ _).setCell (p := ⟨w.heap.size + 1, 0, none⟩) (by simp; omega) _).drew⟩
    · exact ((World.cell?_setCell_other (h := k2) ..).trans (World.cell?_setCell_other (h := k1) ..)).trans c1
    · have e5 : ((p + (pre ++ [x]).length : Nat) : Int) = (q : Int) + 1 := by have := HQ.out; simp; omega
      rw [e5]
      exact World.cell?_setCell_same' _ _ _ (by rw [World.cell?_setCell_other (h := k3), c2]; rfl)
    · show (World.setCell _ _ _).frozen? _ = _
      rw [World.frozen?_setCell, World.frozen?_setCell]
      exact f2
    · rw [Fld.puts_snoc, HM.out, HQ.out]
      intro i hi
      rw [Fld.set_length] at hi
      have k4 : (⟨w.heap.size + 1, 0, none⟩ : Addr) ≠ ⟨b, i, none⟩ := addr_ne (by omega)
      have e6 := HH.out i hi
      refine ⟨?_, ?_⟩
      · refine (World.cell?_setCell_other (h := k4) ..).trans ?_
        by_cases hij : i = j
        · subst hij
          rw [World.cell?_setCell_same' _ _ _ (by rw [c3]; rfl), ← HJ.out, Fld.set_at _ _ _ (by have := HJ.out; have := ML.out; omega), HJ.out, HY.out, HD.out, HZ.out]
          have hz := HZ.out
          have hz2 := (setB_all y y8 d (by omega) x.1 x.2).2
          rw [UInt8.toNat_ofNat_of_lt' (by rw [← hz]; exact hz2)]
        · rw [World.cell?_setCell_other (h := addr_ne_off (fun e => hij e.symm)), Fld.set_off _ _ _ _ (by have := HJ.out; omega)]
          exact e6.1
      · show (World.setCell _ _ _).frozen? _ = _
        rw [World.frozen?_setCell, World.frozen?_setCell]
        exact e6.2
  case done =>
    rintro D ys W hD rfl ⟨⟨_, hh'⟩, hB⟩ hK
    gi_wp2
    rw [Fld.puts_nbit] at hh'
    refine ⟨by simp, .inl ⟨_, _, rfl, run_takeDeferred hK, ?_⟩⟩
    have hz : w.heap.size ≤ D := by simp at hD; omega
    exact ⟨_, results_none rfl _ _ _, ⟨_, rfl⟩, fun j h => ⟨cell_kept (hh' j h).1 (grownBy_putObj' W D _) (fun r e => by cases e; exact ⟨_, hK, rfl⟩), (frozen_kept (hh' j h).1 (grownBy_putObj' W D _) (fun r e => by cases e; exact ⟨_, hK, rfl⟩)).trans (hh' j h).2⟩, hB.trans (belowK_b (w := w) (by omega) W D _ _ hz hK rfl rfl)⟩
  case stop =>
    rintro D c pre W _ _ h _
    exact h.elim
end Go.Proofs.Ytgfjmolihobaeaa
