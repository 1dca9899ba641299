/- FldGet, FldPut, FldList of layer 2 as one text, under names of their own. -/
import Derived.Test.YtphkaambodecdaaF2a
import Derived.Test.YtphkaambodecdaaLen
import Derived.Handy
import Derived.Laws.IdiomStrings
import Derived.Below
import Derived.Lib.ItoaNum
import Derived.OwnWalk
import Derived.ArgAppend
import Derived.BigQuiet
import Derived.Deep.QuietTactic
/- The contracts of package fields' functions on one field over this program. -/
namespace Go.Proofs.Ytphkaambodecdaa
open Go.RowKit Go.Shelf
set_option linter.unusedVariables false

namespace Fld
def isW (wd : Int) : Bool := decide (1 ≤ wd) && decide (wd ≤ 64)
theorem isW_iff (wd : Int) : isW wd = true ↔ 1 ≤ wd ∧ wd ≤ 64 := by unfold isW; simp
theorem isW_not (wd : Int) : isW wd = false ↔ ¬ (1 ≤ wd ∧ wd ≤ 64) := by rw [← isW_iff]; simp
def ok (n : Nat) (p wd : Int) : Prop := (1 ≤ wd ∧ wd ≤ 64) ∧ 0 ≤ p ∧ p ≤ 8 * (n : Int) - wd
instance (n : Nat) (p wd : Int) : Decidable (ok n p wd) := by unfold ok; infer_instance
/-- What is wrong with a place of a string of n bytes. -/
def chk (n : Nat) (p wd : Int) : Int := if 65536 < n then 3 else if ok n p wd then 0 else 2
theorem chk_long {n : Nat} {p wd : Int} (h : 65536 < n) : chk n p wd = 3 := if_pos h
theorem chk_ok {n : Nat} {p wd : Int} (h : ¬ 65536 < n) (k : ok n p wd) : chk n p wd = 0 := by unfold chk; rw [if_neg h, if_pos k]
theorem chk_bad {n : Nat} {p wd : Int} (h : ¬ 65536 < n) (k : ¬ ok n p wd) : chk n p wd = 2 := by unfold chk; rw [if_neg h, if_neg k]
end Fld
theorem ret_int {k : IntKind} {a b : Int} (h : a = b) : Ending.returned (.int k a) = .returned (.int k b) := by rw [h]

theorem isWidth_any (wd : Int) (w : World) : Calls Try.prog 75 #[.int .i64 wd] w fun e w' => e = .returned (.bool (Fld.isW wd)) ∧ w = w' := by
  by_cases h : 1 ≤ wd
  · go_enter Try.func75, Try.ntmps75
    go_wp2
    go_ret
    exact ⟨by unfold Fld.isW; simp [h], rfl⟩
  · have h' : decide (1 ≤ wd) = false := by simpa using h
    go_enter Try.func75, Try.ntmps75
    go_wp2
    go_ret
    exact ⟨by unfold Fld.isW; simp [h'], rfl⟩


theorem read_any (s : ByteArray) (p wd : Nat) (hs : s.size ≤ 70000) (hin : p + wd ≤ 8 * s.size) (hwd : wd ≤ 64) (w : World) :
    Calls Try.prog 72 #[.string s, .int .i64 p, .int .i64 wd] w fun e W' => e = .returned (.int .u64 (Fld.num s.data.toList p wd : Nat)) ∧ Below w.heap.size w W' :=
  callsIn_wide.1 (read_in Fence.wide 3 trivial trivial trivial rfl (by omega) s p wd hs hin hwd w)

namespace Fld
def getV (l : List UInt8) (p wd : Int) : Nat := if chk l.length p wd = 0 then num l p.toNat wd.toNat else 0
end Fld

end Go.Proofs.Ytphkaambodecdaa
/- The contracts of package fields' Signed, fits, replaced, Put, PutSigned, Flip over this program. -/
namespace Go.Proofs.Ytphkaambodecdaa
open Go.RowKit Go.Shelf
set_option linter.unusedVariables false

namespace Fld
theorem chk_cases {n : Nat} {p wd : Int} (h : chk n p wd = 0) : ok n p wd ∧ ¬ 65536 < n := by
  unfold chk at h
  split at h
  · cases h
  · split at h
    · exact ⟨‹_›, ‹_›⟩
    · cases h
/-- A number of so many bits in two's complement. -/
def two (v wd : Nat) : Int := if v < 2 ^ (wd - 1) then v else (v : Int) - 2 ^ wd
def getS (l : List UInt8) (p wd : Int) : Int := if chk l.length p wd = 0 then two (num l p.toNat wd.toNat) wd.toNat else 0
end Fld

theorem two_walk (v b : Nat) (h1 : 1 ≤ b) (h2 : b ≤ 64) (hv : v < 2 ^ b) : wrap64 (IntKind.u64.wrap ((v : Int) * 2 ^ (64 - b))) / 2 ^ (64 - b) = Fld.two v b := by
  obtain ⟨P, hP⟩ : ∃ P : Nat, 2 ^ (64 - b) = P := ⟨_, rfl⟩
  obtain ⟨H, hH⟩ : ∃ H : Nat, 2 ^ (b - 1) = H := ⟨_, rfl⟩
  have e1 : 2 ^ b = 2 * H := by rw [← hH, ← Nat.pow_succ', Nat.succ_eq_add_one, Nat.sub_add_cancel h1]
  have e2 : H * P = 9223372036854775808 := by rw [← hH, ← hP, ← Nat.pow_add, show b - 1 + (64 - b) = 63 by omega]
  have p0 : 0 < P := by rw [← hP]; exact Nat.pow_pos (by omega)
  have c : ((2 : Int) ^ (64 - b)) = (P : Int) := by rw [← hP]; simp
  have c2 : ((2 : Int) ^ b) = ((2 * H : Nat) : Int) := by rw [← e1]; simp
  rw [c, ← Int.natCast_mul]
  unfold Fld.two
  rw [hH, c2]
  have m : v * P < 2 * H * P := Nat.mul_lt_mul_of_pos_right (by rw [← e1]; exact hv) p0
  have m2 : 2 * H * P = 18446744073709551616 := by rw [Nat.mul_assoc, e2]
  have u : IntKind.u64.wrap ((v * P : Nat) : Int) = ((v * P : Nat) : Int) := by
    generalize v * P = t at *
    rw [IntKind.wrap_u64]; omega
  rw [u]
  by_cases hlt : v < H
  · rw [if_pos hlt]
    have m3 : v * P < H * P := Nat.mul_lt_mul_of_pos_right hlt p0
    have x : wrap64 ((v * P : Nat) : Int) = ((v * P : Nat) : Int) := by
      generalize v * P = t at *
      unfold wrap64; omega
    rw [x, Int.natCast_mul, Int.mul_ediv_cancel _ (by omega)]
  · rw [if_neg hlt]
    have m3 : H * P ≤ v * P := Nat.mul_le_mul_right P (by omega)
    have x : wrap64 ((v * P : Nat) : Int) = ((v : Int) - ((2 * H : Nat) : Int)) * (P : Int) := by
      rw [Int.sub_mul, ← Int.natCast_mul, ← Int.natCast_mul, m2]
      generalize v * P = t at *
      unfold wrap64; omega
    rw [x, Int.mul_ediv_cancel _ (by omega)]


theorem bitLen_lt (v k : Nat) (hv : v < 18446744073709551616) (hk : k ≤ 64) : Lib.bitLen v ≤ k ↔ v < 2 ^ k := by
  constructor
  · intro h
    by_cases z : v = 0
    · subst z; exact Nat.pow_pos (by omega)
    · have := (Lib.bitLenAux_bounds 64 v (by simpa using hv) z).2.2
      exact Nat.lt_of_lt_of_le this (Nat.pow_le_pow_right (by omega) h)
  · exact Lib.bitLen_le v k hk

namespace Fld
def fitsB (v wd : Nat) : Bool := decide (v < 2 ^ wd)
end Fld
theorem fits_any (v wd : Nat) (hv : v < 18446744073709551616) (hk : wd ≤ 64) (w : World) :
    Calls Try.prog 69 #[.int .u64 v, .int .i64 wd] w fun e w' => e = .returned (.bool (Fld.fitsB v wd)) ∧ w = w' := by
  have e : Fld.fitsB v wd = decide (Lib.bitLen v ≤ wd) := by unfold Fld.fitsB; rw [decide_eq_decide]; exact (bitLen_lt v wd hv hk).symm
  have L := Lib.hid (fun w => len64_any v w (by omega) (by omega))
  rw [e]
  clear e
  go_enter Try.func69, Try.ntmps69
  go_wp2_with fail
  refine (L.out _).mono ?_
  rintro e w' ⟨rfl, rfl⟩
  go_wp2_with fail
  go_ret
  refine ⟨?_, rfl⟩
  simp

theorem write_any (b cap p wd v n₀ : Nat) (l : List UInt8) (hl : l.length ≤ 70000) (hin : p + wd ≤ 8 * l.length) (hwd : wd ≤ 64) (hv : v < 18446744073709551616) (w : World) (hb : b < w.heap.size) (hn₀ : n₀ ≤ b) (hh : Holds w b l) :
    Calls Try.prog 71 #[.slice (some ⟨b, 0, none⟩) l.length cap, .int .i64 p, .int .i64 wd, .int .u64 v] w fun e W' => (∃ v, e = .returned v) ∧ Holds W' b (Fld.put l p wd v wd) ∧ Below n₀ w W' :=
  callsIn_wide.1 (write_in 3 (by omega) b cap p wd v n₀ l hl hin hwd hv w hb hn₀ hh)

theorem holds_new (s : ByteArray) (cap e : Nat) (w : World) : Holds (w.alloc (.cells (bytesRow s cap) e ((bytesRow s cap).size, (bytesRow s cap).size + 1))) w.heap.size s.data.toList := by
  intro j h
  have h' : j < s.data.size := by simpa using h
  refine ⟨?_, ?_⟩
  · rw [World.cell?_alloc_mark, bytesRow_at s cap j h', f2_byte_at s j h']
    rfl
  · rw [World.frozen?_alloc_mark]
    have hz : (bytesRow s cap).size = s.data.size + (cap - s.size) := by unfold bytesRow; simp
    have : ¬ (bytesRow s cap).size ≤ j := by rw [hz]; omega
    simp [this]
theorem back_bytes (w : World) (b cap : Nat) (l : List UInt8) (h : Holds w b l) : (convert 73 9 (.slice (some ⟨b, 0, none⟩) l.length cap)).run Try.prog w = .ok (.string ⟨l.toArray⟩) w :=
  run_convert_bytes_back w 73 9 5 ⟨b, 0, none⟩ cap l Try.underlying73 Try.underlying5 Try.underlying9 (fun j hj => by
    have e : (⟨b, 0, none⟩ : Addr).add j = ⟨b, j, none⟩ := by unfold Addr.add; split <;> simp_all
    rw [e, (h j hj).1]
    simp [List.getD_eq_getElem?_getD, List.getElem?_eq_getElem hj])


namespace Fld
/-- What Put reports. -/
def chkP (n : Nat) (p wd : Int) (v : Nat) : Int := if chk n p wd = 0 then (if fitsB v wd.toNat = true then 0 else 7) else chk n p wd
def putV (l : List UInt8) (p wd : Int) (v : Nat) : List UInt8 := if chkP l.length p wd v = 0 then put l p.toNat wd.toNat v wd.toNat else []
def fitsS (v : Int) (wd : Nat) : Prop := -2 ^ (wd - 1) ≤ v ∧ v < 2 ^ (wd - 1)
instance (v : Int) (wd : Nat) : Decidable (fitsS v wd) := by unfold fitsS; infer_instance
def chkPS (n : Nat) (p wd : Int) (v : Int) : Int := if chk n p wd = 0 then (if fitsS v wd.toNat then 0 else 7) else chk n p wd
def putVS (l : List UInt8) (p wd : Int) (v : Int) : List UInt8 := if chkPS l.length p wd v = 0 then put l p.toNat wd.toNat (v % 18446744073709551616).toNat wd.toNat else []
end Fld
theorem empty_str : (⟨([] : List UInt8).toArray⟩ : ByteArray) = { data := #[] } := rfl


theorem sign_walk (v : Int) (b : Nat) : (Fld.fitsS v b → v / 2 ^ (b - 1) = 0 ∨ v / 2 ^ (b - 1) = -1) ∧ (¬ Fld.fitsS v b → v / 2 ^ (b - 1) ≠ 0 ∧ v / 2 ^ (b - 1) ≠ -1) := by
  unfold Fld.fitsS
  have p0 : (0 : Int) < 2 ^ (b - 1) := Int.pow_pos (by omega)
  generalize (2 : Int) ^ (b - 1) = P at *
  have h1 := Int.ediv_mul_le v (show P ≠ 0 by omega)
  have h2 := Int.lt_ediv_add_one_mul_self v p0
  generalize v / P = q at *
  refine ⟨fun ⟨a, c⟩ => ?_, fun n => ⟨fun e => ?_, fun e => ?_⟩⟩
  · have n1 : q < 1 := by
      by_cases z : q < 1
      · exact z
      · have := Int.mul_le_mul_of_nonneg_right (show 1 ≤ q by omega) (show 0 ≤ P by omega); omega
    have n2 : -2 < q := by
      by_cases z : -2 < q
      · exact z
      · have := Int.mul_le_mul_of_nonneg_right (show q + 1 ≤ -1 by omega) (show 0 ≤ P by omega); omega
    omega
  · subst e; omega
  · subst e; omega


namespace Fld
def flipV (l : List UInt8) (p : Int) : List UInt8 := if chk l.length p 1 = 0 then put l p.toNat 1 (1 - bit l p.toNat) 1 else []
end Fld
end Go.Proofs.Ytphkaambodecdaa
/- The contracts of the functions on lists of widths over this program: the program's areWidths, total, filled, the reference's all, bits. -/
namespace Go.Proofs.Ytphkaambodecdaa
open Go.RowKit Go.Shelf
set_option linter.unusedVariables false

/-- The slice at a reads as the numbers zs. -/
def FReads (k : IntKind) (w : World) (a : Option Addr) (zs : List Int) : Prop := zs = [] ∨ ∃ b off, a = some ⟨b, off, none⟩ ∧ b < w.heap.size ∧ ∀ j, j < zs.length → w.cell? ⟨b, off + j, none⟩ = some (.int k (zs.getD j 0))
theorem FReads.below {k : IntKind} {w w' : World} {a : Option Addr} {zs : List Int} (h : FReads k w a zs) (hb : Below w.heap.size w w') : FReads k w' a zs := by
  rcases h with h | ⟨b, off, rfl, hl, hc⟩
  · exact .inl h
  · exact .inr ⟨b, off, rfl, Nat.lt_of_lt_of_le hl hb.size, fun j hj => (hb.cell (p := ⟨b, off + j, none⟩) hl).trans (hc j hj)⟩

namespace Fld
def allW (zs : List Int) : Bool := zs.all isW
def tot (ns : List Nat) : Nat := ns.sum
theorem allW_take_succ (zs : List Int) (k : Nat) (h : k < zs.length) : allW (zs.take (k + 1)) = (allW (zs.take k) && isW (zs.getD k 0)) := by
  unfold allW
  rw [List.take_succ_eq_append_getElem h, List.all_append]
  simp [List.getD, List.getElem?_eq_getElem h]
theorem allW_false (zs : List Int) (k : Nat) (h : k < zs.length) (e : isW (zs.getD k 0) = false) : allW zs = false := by
  unfold allW
  rw [List.all_eq_false]
  refine ⟨zs.getD k 0, ?_, by rw [e]; decide⟩
  simp [List.getD, List.getElem?_eq_getElem h]
theorem tot_take_succ (ns : List Nat) (k : Nat) (h : k < ns.length) : tot (ns.take (k + 1)) = tot (ns.take k) + ns.getD k 0 := by
  unfold tot
  rw [List.take_succ_eq_append_getElem h, List.sum_append]
  simp [List.getD, List.getElem?_eq_getElem h]
theorem tot_le (ns : List Nat) (c : Nat) (h : ∀ j, j < ns.length → ns.getD j 0 ≤ c) : ∀ k, k ≤ ns.length → tot (ns.take k) ≤ k * c
  | 0, _ => by simp [tot]
  | k + 1, hk => by
    rw [tot_take_succ ns k hk]
    have := tot_le ns c h k (by omega)
    have := h k hk
    rw [Nat.add_mul]
    omega
end Fld

set_option maxHeartbeats 1000000 in
theorem areWidths_any (a : Option Addr) (cap : Nat) (zs : List Int) (hl : zs.length ≤ 600) (w : World) (h : FReads .i64 w a zs) :
    Calls Try.prog 67 #[.slice a zs.length cap] w fun e w' => e = .returned (.bool (Fld.allW zs)) ∧ w = w' := by
  rcases h with rfl | ⟨b, off, rfl, hlt, hc⟩
  · show Calls _ _ #[.slice a 0 cap] _ _
    go_enter Try.func67, Try.ntmps67
    go_wp2_with fail
    refine wp_loop_rounds 1 ?_
    rw [rounds_succ]
    go_wp2_with fail
    go_ret
    exact ⟨rfl, rfl⟩
  · obtain ⟨n, hn⟩ : ∃ n, zs.length = n := ⟨_, rfl⟩
    rw [hn] at hl hc ⊢
    have HC := Lib.hid hc
    have HN := Lib.hid hn
    have IW := Lib.hid (fun z w => isWidth_any z w)
    clear hc hn
    go_enter Try.func67, Try.ntmps67
    go_wp2_with fail
    go_loop [7] (fun i => ∃ k : Nat, k ≤ n ∧ i = .int .i64 k ∧ Fld.allW (zs.take k) = true) (fun i => n - (intOf i).toNat)
    case atStart => exact ⟨0, Nat.zero_le _, rfl, rfl⟩
    case round =>
      obtain ⟨k, hk, rfl, ha⟩ := hrel
      by_cases hlt2 : k < n
      · have hcell := HC.out k hlt2
        obtain ⟨z, hz⟩ : ∃ z, zs.getD k 0 = z := ⟨_, rfl⟩
        rw [hz] at hcell
        have S := Fld.allW_take_succ zs k (by have := HN.out; omega)
        rw [ha, hz] at S
        by_cases e : Fld.isW z = true
        · have SS := Lib.hid (S.trans (show (true && Fld.isW z) = true by rw [e]; rfl))
          have HZ := Lib.hid hz
          clear S hz ha
          go_wp2_with fail
          refine (IW.out _ _).mono ?_
          rintro e w' ⟨rfl, rfl⟩
          go_wp2_with fail
          go_round
          case rel => exact ⟨k + 1, by omega, by go_num, SS.out⟩
          case measure => simp [intOf]; omega
        · have e0 : Fld.isW z = false := by simpa using e
          have AF := Fld.allW_false zs k (by have := HN.out; omega) (by rw [hz]; exact e0)
          have AFF := Lib.hid AF
          clear S hz ha AF e
          go_wp2_with fail
          refine (IW.out _ _).mono ?_
          rintro e w' ⟨rfl, rfl⟩
          go_wp2_with fail
          go_ret
          exact ⟨by rw [AFF.out]; rfl, rfl⟩
      · obtain rfl : k = n := by omega
        have ha' : Fld.allW zs = true := by rw [← HN.out, List.take_length] at ha; exact ha
        have HA := Lib.hid ha'
        clear ha ha'
        go_wp2_with fail
        go_ret
        exact ⟨by rw [HA.out]; rfl, rfl⟩

set_option maxHeartbeats 1000000 in
theorem total_any (a : Option Addr) (cap : Nat) (ns : List Nat) (hl : ns.length ≤ 600) (hb : ∀ j, j < ns.length → ns.getD j 0 ≤ 64) (w : World) (h : FReads .i64 w a (ns.map Int.ofNat)) :
    Calls Try.prog 68 #[.slice a ns.length cap] w fun e w' => e = .returned (.int .i64 (Fld.tot ns : Nat)) ∧ w = w' := by
  rcases h with h0 | ⟨b, off, rfl, hlt, hc⟩
  · obtain rfl : ns = [] := by simpa using h0
    show Calls _ _ #[.slice a 0 cap] _ _
    go_enter Try.func68, Try.ntmps68
    go_wp2_with fail
    refine wp_loop_rounds 1 ?_
    rw [rounds_succ]
    go_wp2_with fail
    go_ret
    exact ⟨rfl, rfl⟩
  · have tl := Fld.tot_le ns 64 hb
    have cell : ∀ j, j < ns.length → w.cell? ⟨b, off + j, none⟩ = some (.int .i64 (ns.getD j 0 : Nat)) := fun j hj => by
      have := hc j (by simpa using hj)
      rw [this]
      simp [List.getD, List.getElem?_eq_getElem hj]
    obtain ⟨n, hn⟩ : ∃ n, ns.length = n := ⟨_, rfl⟩
    have st := Fld.tot_take_succ ns
    rw [hn] at hl cell hb tl st ⊢
    have HC := Lib.hid cell
    have HN := Lib.hid hn
    have TL := Lib.hid tl
    have HB := Lib.hid hb
    have ST := Lib.hid st
    clear hc hn tl hb cell st
    go_enter Try.func68, Try.ntmps68
    go_wp2_with fail
    go_loop [3, 8] (fun t i => ∃ k : Nat, k ≤ n ∧ i = .int .i64 k ∧ t = .int .i64 (Fld.tot (ns.take k) : Nat)) (fun _ i => n - (intOf i).toNat)
    case atStart => exact ⟨0, Nat.zero_le _, rfl, rfl⟩
    case round =>
      obtain ⟨k, hk, rfl, rfl⟩ := hrel
      by_cases hlt2 : k < n
      · have hcell := HC.out k hlt2
        have S := ST.out k hlt2
        have t1 := TL.out k hk
        have t2 := HB.out k hlt2
        obtain ⟨z, hz⟩ : ∃ z, ns.getD k 0 = z := ⟨_, rfl⟩
        rw [hz] at hcell S t2
        obtain ⟨t, ht⟩ : ∃ t, Fld.tot (ns.take k) = t := ⟨_, rfl⟩
        rw [ht] at S t1 ⊢
        have SS := Lib.hid S
        have t3 : t ≤ 40000 := by omega
        clear S hz ht t1
        go_wp2_with fail
        go_round
        case rel => exact ⟨k + 1, by omega, by go_num, by rw [SS.out]; go_num⟩
        case measure => simp [intOf]; omega
      · obtain rfl : k = n := by omega
        have e : ns.take k = ns := by rw [← HN.out, List.take_length]
        rw [e]
        clear e
        go_wp2_with fail
        go_ret
        exact ⟨rfl, rfl⟩

namespace Fld
def fill (ns : List Nat) : List Nat := if tot ns % 8 = 0 then ns else ns ++ [8 - tot ns % 8]
theorem fill_tot (ns : List Nat) : tot (fill ns) % 8 = 0 ∧ tot ns ≤ tot (fill ns) ∧ tot (fill ns) ≤ tot ns + 7 := by
  unfold fill
  split
  · omega
  · have : tot (ns ++ [8 - tot ns % 8]) = tot ns + (8 - tot ns % 8) := by unfold tot; simp
    omega
theorem fill_length (ns : List Nat) : (fill ns).length ≤ ns.length + 1 := by
  unfold fill
  split <;> simp
theorem fill_le (ns : List Nat) (h : ∀ j, j < ns.length → ns.getD j 0 ≤ 64) : ∀ j, j < (fill ns).length → (fill ns).getD j 0 ≤ 64 := by
  unfold fill
  split
  · exact h
  · intro j hj
    by_cases e : j < ns.length
    · have := h j e
      simpa [List.getD, List.getElem?_append_left e] using this
    · have : j = ns.length := by simp at hj; omega
      subst this
      simp [List.getD]
      omega
end Fld
theorem info_int : (Try.prog.info? 3).map (fun i => (i.zero, i.size, i.bytes)) = some (some (.int .i64 0), 1, 8) := by kernel_rfl

/-- What filled returns. -/
def Filled (ns : List Nat) (w : World) (e : Ending) (w' : World) : Prop := ∃ a' cap', e = .returned (.slice a' (Fld.fill ns).length cap') ∧ (Fld.fill ns).length ≤ cap' ∧ FReads .i64 w' a' ((Fld.fill ns).map Int.ofNat) ∧ Below w.heap.size w w'

theorem getD_ofNat (ns : List Nat) (j : Nat) (h : j < ns.length) : (ns.map Int.ofNat).getD j 0 = (ns.getD j 0 : Nat) := by
  simp [List.getD, List.getElem?_eq_getElem h]

theorem reads_own {k : IntKind} {w : World} {base e : Nat} {a : Option Addr} {n cap : Nat} {zs : List Int} (h : w.ownsRow base e 1 (.slice a n cap) n (zs.map (Value.int k))) : FReads k w a zs ∧ n = zs.length ∧ n ≤ cap := by
  obtain ⟨hl, h⟩ := h
  have hn : n = zs.length := by simpa using hl.symm
  rcases h with ⟨hv, h0⟩ | ⟨g, c, cur, hv, hb, hg, hnc, hm, hsz, ht⟩
  · simp only [Value.slice.injEq] at hv
    exact ⟨.inl (List.eq_nil_of_length_eq_zero (by omega)), hn, by omega⟩
  · simp only [Value.slice.injEq] at hv
    obtain ⟨rfl, _, rfl⟩ := hv
    refine ⟨.inr ⟨g, 0, rfl, (Array.getElem?_eq_some_iff.1 hg).1, fun j hj => ?_⟩, hn, hnc⟩
    have e1 : w.cell? ⟨g, 0 + j, none⟩ = cur[j]? := by
      unfold World.cell?
      rw [hg]
      simp
    have e2 : (cur.toList.take (n * 1))[j]? = cur[j]? := by
      rw [List.getElem?_take_of_lt (by omega)]
      simp
    rw [e1, ← e2, ht, List.getElem?_map]
    simp [List.getD, List.getElem?_eq_getElem hj]

theorem add_addr (b off j : Nat) : (⟨b, off, none⟩ : Addr).add j = ⟨b, off + j, none⟩ := by unfold Addr.add; split <;> simp_all
theorem cells_add {k : IntKind} {w : World} {b off : Nat} {zs : List Int} (hc : ∀ j, j < zs.length → w.cell? ⟨b, off + j, none⟩ = some (.int k (zs.getD j 0))) :
    ∀ b', some (⟨b, off, none⟩ : Addr) = some b' → ∀ j u, (zs.map (Value.int k))[j]? = some u → w.cell? (b'.add j) = some u := by
  intro b' e j u hu
  cases e
  have hj : j < zs.length := by
    have := (List.getElem?_eq_some_iff.1 hu).1
    simpa using this
  rw [add_addr, hc j hj]
  rw [List.getElem?_map, List.getElem?_eq_getElem hj] at hu
  simp [List.getD, List.getElem?_eq_getElem hj]
  simpa using hu
theorem f2_cell_one {w : World} {v : Value} {t : TypeId} : ∀ j u, [v][j]? = some u → (w.alloc (.cells #[v] t)).cell? ((⟨w.heap.size, 0, none⟩ : Addr).add j) = some u := by
  intro j u hu
  have hj : j < 1 := by
    have := (List.getElem?_eq_some_iff.1 hu).1
    simpa using this
  obtain rfl : j = 0 := by omega
  rw [add_addr]
  have := (f2_cell_new_l w v t).1
  simp at hu
  subst hu
  exact this
theorem own_slice {w : World} {base e n : Nat} {v : Value} {xs : List Value} (h : w.ownsRow base e 1 v n xs) : ∃ a cap, v = .slice a n cap := by
  rcases h.2 with ⟨rfl, rfl⟩ | ⟨g, c, _, rfl, _⟩
  · exact ⟨none, 0, rfl⟩
  · exact ⟨_, c, rfl⟩

set_option maxHeartbeats 1000000 in
theorem filled_any (a : Option Addr) (cap : Nat) (ns : List Nat) (hl : ns.length ≤ 599) (hcap : ns.length ≤ cap) (hcm : cap ≤ 9223372036854775807) (hb : ∀ j, j < ns.length → ns.getD j 0 ≤ 64) (w : World) (h : FReads .i64 w a (ns.map Int.ofNat)) :
    Calls Try.prog 70 #[.slice a ns.length cap] w (Filled ns w) := by
  have T := Lib.hid (total_any a cap ns (by omega) hb w h)
  by_cases c : Fld.tot ns % 8 = 0
  · have e : Fld.fill ns = ns := if_pos c
    have R : Filled ns w (.returned (.slice a ns.length cap)) w := by
      refine ⟨a, cap, by rw [e], by rw [e]; exact hcap, by rw [e]; exact h, Below.refl _ _⟩
    have RR := Lib.hid R
    have tb := Fld.tot_le ns 64 hb ns.length (Nat.le_refl _)
    rw [List.take_length] at tb
    obtain ⟨t, ht⟩ : ∃ t, Fld.tot ns = t := ⟨_, rfl⟩
    rw [ht] at T c tb
    have c' : (t : Int) % 8 = 0 := by omega
    have t1 : t ≤ 40000 := by omega
    clear h e R hb ht tb
    go_enter Try.func70, Try.ntmps70
    go_wp2_with fail
    refine T.out.mono ?_
    rintro e w' ⟨rfl, rfl⟩
    go_wp2_with fail
    go_ret
    exact RR.out
  · have e : Fld.fill ns = ns ++ [8 - Fld.tot ns % 8] := if_neg c
    have tb := Fld.tot_le ns 64 hb ns.length (Nat.le_refl _)
    rw [List.take_length] at tb
    rcases h with h0 | ⟨b, off, rfl, hlt, hc⟩
    · obtain rfl : ns = [] := by simpa using h0
      exact absurd rfl c
    · obtain ⟨t, ht⟩ : ∃ t, Fld.tot ns = t := ⟨_, rfl⟩
      rw [ht] at T c tb e
      obtain ⟨r, hr⟩ : ∃ r, t % 8 = r := ⟨_, rfl⟩
      rw [hr] at c e
      have r1 : (t : Int) % 8 = (r : Int) := by omega
      have r2 : ((r : Int) == 0) = false := by simp; omega
      have r3 : r < 8 := by omega
      have t1 : t ≤ 40000 := by omega
      obtain ⟨n, hn⟩ : ∃ n, ns.length = n := ⟨_, rfl⟩
      have HE := Lib.hid e
      have HN := Lib.hid hn
      have HC := Lib.hid hc
      rw [hn] at T hl hcap ⊢
      clear hc hb ht hr c e hn tb
      go_enter Try.func70, Try.ntmps70
      go_wp2_with fail
      refine T.out.mono ?_
      rintro e w' ⟨rfl, rfl⟩
      obtain ⟨i0, hi, hz0, hz1, hz2⟩ := info_parts info_int
      have OC := Lib.hid (cells_add (k := .i64) (w := w.alloc (.cells #[.int .i64 (8 - (r : Int))] 3)) (b := b) (off := off) (zs := ns.map Int.ofNat) (fun j hj => (World.cell?_alloc_lt (h := hlt) ..).trans (HC.out j hj)))
      have HL := Lib.hid (show ((ns.map Int.ofNat).map (Value.int .i64)).length = n * 1 by simp [HN.out])
      have BB := Lib.hid (((Below.refl w.heap.size w).alloc (Nat.le_refl _) (.cells #[.int .i64 (8 - (r : Int))] 3)))
      go_wp2_with (at_builtin; refine wpList_append_grows _ rfl _ _ 105 rfl 3 i0 (.int .i64 0) 1 8 Try.underlying105 hi hz0 hz1 hz2 rfl (by decide) (some ⟨b, off, none⟩) n n ((ns.map Int.ofNat).map (Value.int .i64)) rfl (fun h => by cases h) HL.out OC.out ⟨w.heap.size, 0, none⟩ 1 1 [.int .i64 (8 - (r : Int))] rfl rfl f2_cell_one (by simp [Value.oneCell']) (by omega) (by unfold maxLen; omega) (by omega) ?_; intro v' w' hown hgrow)
      go_ret
      obtain ⟨a', cap', rfl⟩ := own_slice hown
      have e1 : (ns.map Int.ofNat).map (Value.int .i64) ++ [.int .i64 (8 - (r : Int))] = ((Fld.fill ns).map Int.ofNat).map (Value.int .i64) := by
        rw [HE.out, List.map_append, List.map_append]
        have : (8 - (r : Int)) = Int.ofNat (8 - r) := by show _ = ((8 - r : Nat) : Int); omega
        rw [this]
        rfl
      rw [e1] at hown
      obtain ⟨q1, q2, q3⟩ := reads_own hown
      have q4 : n + 1 = (Fld.fill ns).length := by rw [HE.out]; simp [HN.out]
      exact ⟨a', cap', by rw [← q4]; rfl, by omega, q1, BB.out.trans ((Below.refl _ _).grown hgrow (by simp) (fun k e => by cases e))⟩
end Go.Proofs.Ytphkaambodecdaa
