/- Layer 9: arguments that are lists of strings or of bools; the check kit's Long and SameStrings; rows of strings that are appended to. -/
import Derived.Test.YtphkaambodecdaaPkArg
import Derived.Test.YtphkaambodecdaaPkEq
import Derived.Test.YtphkaambodecdaaPkList
import Derived.SliceStrings
import Derived.BigQuiet
namespace Go.Proofs.Ytphkaambodecdaa
open Go.ChangeShapes Go.WideShapes Go.ChangeAt Go.RowKit Go.Deep
set_option linter.unusedVariables false
set_option maxRecDepth 100000

/-- The slice at a reads as these strings. -/
def Strs (w : World) (a : Option Addr) (l : List ByteArray) : Prop := l = [] ∨ ∃ B off, a = some ⟨B, off, none⟩ ∧ B < w.heap.size ∧ ∀ (i : Nat) (s : ByteArray), l[i]? = some s → w.cell? ⟨B, off + i, none⟩ = some (.string s) ∧ s.size ≤ maxLen
theorem Strs.below {w w' : World} {a : Option Addr} {l : List ByteArray} (h : Strs w a l) (hb : Below w.heap.size w w') : Strs w' a l := by
  rcases h with h | ⟨B, off, e, hl, hc⟩
  · exact .inl h
  · exact .inr ⟨B, off, e, Nat.lt_of_lt_of_le hl hb.size, fun i x hx => ⟨(hb.cell (p := ⟨B, off + i, none⟩) hl).trans (hc i x hx).1, (hc i x hx).2⟩⟩
/-- The slice at a reads as these bools. -/
def Bls (w : World) (a : Option Addr) (l : List Bool) : Prop := l = [] ∨ ∃ B off, a = some ⟨B, off, none⟩ ∧ B < w.heap.size ∧ ∀ (i : Nat) (s : Bool), l[i]? = some s → w.cell? ⟨B, off + i, none⟩ = some (.bool s)
theorem Bls.below {w w' : World} {a : Option Addr} {l : List Bool} (h : Bls w a l) (hb : Below w.heap.size w w') : Bls w' a l := by
  rcases h with h | ⟨B, off, e, hl, hc⟩
  · exact .inl h
  · exact .inr ⟨B, off, e, Nat.lt_of_lt_of_le hl hb.size, fun i x hx => (hb.cell (p := ⟨B, off + i, none⟩) hl).trans (hc i x hx)⟩
theorem cells_string : Try.prog.cellsOf 9 = 1 := by kernel_rfl
theorem cells_bool : Try.prog.cellsOf 4 = 1 := by kernel_rfl
section
variable {H : Type} {enc : TypeId × Value → H}
theorem strs_arg {w : World} {v : Value} {d : DataW H} {p : List MemPlace} (hv : v.cells.toList = [v]) (hd : DataW.Trod enc Try.prog w 0 (fun _ => true) true 60 v d p) :
    ∃ a l cap, v = .slice a l.length cap ∧ l.length ≤ cap ∧ cap ≤ maxLen ∧ Strs w a l ∧ ∀ W', Below w.heap.size w W' → ∀ sp : Nat → Bool, (∀ q ∈ p, sp q.block = true) → DataW.Trod enc Try.prog W' 0 sp true 60 v d p := by
  have ST := fun W' (hb : Below w.heap.size w W') (sp : Nat → Bool) (hs : ∀ q ∈ p, sp q.block = true) => pk_stay (t := 60) (by kernel_rfl) (of_decide_eq_true (by kernel_rfl)) hd hb (sp := sp) hs
  obtain ⟨fuel, hf⟩ := hd
  rw [hv] at hf
  rcases open_strings Try.underlying60 Try.underlying9 cells_string hf with ⟨h1, h2⟩ | ⟨a, len, cap, ss, h1, hb, hl, hm, hss, hx, hcell, hsz⟩
  · simp only [List.cons.injEq, and_true] at h1
    subst h1
    exact ⟨none, [], 0, rfl, Nat.le_refl _, by unfold maxLen; omega, .inl rfl, ST⟩
  · simp only [List.cons.injEq, and_true] at h1
    subst h1
    simp only [if_true] at hss
    have hlen : (ss.take len).length = len := by rw [List.length_take]; omega
    refine ⟨some a, ss.take len, cap, by rw [hlen], by rw [hlen]; exact hl, hm, ?_, ST⟩
    rcases Nat.eq_zero_or_pos len with h0 | h0
    · exact .inl (by rw [h0]; rfl)
    · have c0 := hcell 0 (by omega)
      have h5 := World.block_lt_of_cell? w _ c0
      rw [ChangeShapes.block_add] at h5
      have e := addr_eta a (World.cell?_spot c0)
      refine .inr ⟨a.block, a.off, congrArg some e, h5, fun i x hx => ?_⟩
      have hi : i < len := by
        have := (List.getElem?_eq_some_iff.1 hx).1
        omega
      rw [List.getElem?_take_of_lt hi] at hx
      have ci := hcell i (by omega)
      rw [List.getD_eq_getElem?_getD, hx] at ci
      refine ⟨?_, hsz x (List.mem_of_getElem? hx)⟩
      rw [show (⟨a.block, a.off + i, none⟩ : Addr) = a.add i by rw [show a.add i = (⟨a.block, a.off, none⟩ : Addr).add i by rw [← e], add_off]]
      exact ci
theorem bools_arg {w : World} {v : Value} {d : DataW H} {p : List MemPlace} (hv : v.cells.toList = [v]) (hd : DataW.Trod enc Try.prog w 0 (fun _ => true) true 61 v d p) :
    ∃ a l cap, v = .slice a l.length cap ∧ l.length ≤ cap ∧ cap ≤ maxLen ∧ Bls w a l ∧ ∀ W', Below w.heap.size w W' → ∀ sp : Nat → Bool, (∀ q ∈ p, sp q.block = true) → DataW.Trod enc Try.prog W' 0 sp true 61 v d p := by
  have ST := fun W' (hb : Below w.heap.size w W') (sp : Nat → Bool) (hs : ∀ q ∈ p, sp q.block = true) => pk_stay (t := 61) (by kernel_rfl) (of_decide_eq_true (by kernel_rfl)) hd hb (sp := sp) hs
  obtain ⟨fuel, hf⟩ := hd
  rw [hv] at hf
  rcases open_slice Try.underlying61 hf with ⟨h1, h2⟩ | ⟨a, len, cap, m, n, D, Pl, h1, hb, hl, hm, hmm, hx, hel⟩
  · simp only [List.cons.injEq, and_true] at h1
    subst h1
    exact ⟨none, [], 0, rfl, Nat.le_refl _, by unfold maxLen; omega, .inl rfl, ST⟩
  · simp only [List.cons.injEq, and_true] at h1
    subst h1
    obtain rfl : m = cap := by simpa using hmm
    rw [cells_bool] at hel
    obtain ⟨q, hq⟩ := choose_lt (α := Bool) (p := fun i q => w.cells? 0 (a.add (i * 1)) 1 = some [.bool q]) (fun i hi => by
      obtain ⟨cs', g1, g2⟩ := hel i hi
      obtain ⟨x, rfl, hr⟩ := DataW.trod_bool Try.underlying4 g2
      exact ⟨x, g1⟩)
    refine ⟨some a, (List.range len).map q, m, by simp, by simpa using hl, hm, ?_, ST⟩
    rcases Nat.eq_zero_or_pos len with h0 | h0
    · exact .inl (by rw [h0]; rfl)
    · have cl : ∀ i, i < len → w.cell? (a.add i) = some (.bool (q i)) := fun i hi => by
        have := ChangeShapes.cell_of_cells?_one (hq i (by omega))
        rwa [Nat.mul_one] at this
      have c0 := cl 0 h0
      have h5 := World.block_lt_of_cell? w _ c0
      rw [ChangeShapes.block_add] at h5
      have e := addr_eta a (World.cell?_spot c0)
      refine .inr ⟨a.block, a.off, congrArg some e, h5, fun i x hx => ?_⟩
      have hi : i < len := by
        have := (List.getElem?_eq_some_iff.1 hx).1
        simpa using this
      rw [List.getElem?_map, List.getElem?_range hi] at hx
      simp only [Option.map_some, Option.some.injEq] at hx
      subst hx
      rw [show (⟨a.block, a.off + i, none⟩ : Addr) = a.add i by rw [show a.add i = (⟨a.block, a.off, none⟩ : Addr).add i by rw [← e], add_off]]
      exact cl i hi
end
/-- Do strings have more bytes than so many, each counted with one more? -/
def lgV : List ByteArray → Int → Bool
  | [], _ => false
  | s :: l, m => if m ≤ (s.size : Int) then true else lgV l (m - s.size - 1)
/-- Their bytes, each counted with one more. -/
def lgT : List ByteArray → Nat
  | [] => 0
  | s :: l => s.size + 1 + lgT l
theorem lgT_le : ∀ (l : List ByteArray) (m : Int), 0 ≤ m → lgV l m = false → (lgT l : Int) ≤ m := by
  intro l
  induction l with
  | nil => intro m h0 _; exact h0
  | cons s l ih =>
    intro m h0 h
    unfold lgV at h
    split at h
    · cases h
    · rename_i g
      have := ih (m - s.size - 1) (by omega) h
      unfold lgT
      omega
theorem lgT_drop (l : List ByteArray) {i : Nat} {s : ByteArray} (h : l[i]? = some s) : lgT (l.drop i) = s.size + 1 + lgT (l.drop (i + 1)) := by
  obtain ⟨hi, e⟩ := List.getElem?_eq_some_iff.1 h
  rw [List.drop_eq_getElem_cons hi, e]
  rfl
set_option maxHeartbeats 2000000 in
theorem long_any (ao : Option Addr) (zs : List ByteArray) (cap N : Nat) (m : Int) (hN : zs.length = N) (hNs : N ≤ 9223372036854775807) (h0 : 0 ≤ m) (h1 : m ≤ 1000000) (w : World) (R : Strs w ao zs) :
    Calls Try.prog 30 #[.slice ao N cap, .int .i64 m] w fun e w' => e = .returned (.bool (lgV zs m)) ∧ Below w.heap.size w w' := by
  have B0 := Below.refl w.heap.size w
  have HR := Lib.hid R
  have HN := Lib.hid hN
  have HV0 := Lib.hid (show lgV (zs.drop 0) m = lgV zs m from rfl)
  clear R hN
  go_enter Try.func30, Try.ntmps30
  go_wp2_with fail
  go_loopw [1, 5] (fun x1 x5 wr => ∃ (k : Nat) (y : Int), k ≤ N ∧ x5 = .int .i64 k ∧ x1 = .int .i64 y ∧ 0 ≤ y ∧ y ≤ 1000000 ∧ lgV (zs.drop k) y = lgV zs m ∧ Below w.heap.size w wr) (fun _ x5 _ => N - (intOf x5).toNat)
  case atStart => exact ⟨0, m, Nat.zero_le _, rfl, rfl, h0, h1, HV0.out, B0⟩
  case round =>
    obtain ⟨k, y, hk, rfl, rfl, y0, y1, hv, hB⟩ := hrel
    have HB := Lib.hid hB
    have HV := Lib.hid hv
    clear hB hv
    by_cases hlt : k < N
    · obtain ⟨s, hz⟩ : ∃ z, zs[k]? = some z := ⟨zs[k]'(by have := HN.out; omega), List.getElem?_eq_getElem (by have := HN.out; omega)⟩
      rcases HR.out with e0 | ⟨B, off, rfl, hBl, hz2⟩
      · rw [e0] at hz; cases hz
      obtain ⟨hz3, hz4⟩ := hz2 k s hz
      have cs : wr.cell? ⟨B, off + k, none⟩ = some (.string s) := (HB.out.cell (p := ⟨B, off + k, none⟩) hBl).trans hz3
      have k0 : (0 : Int) ≤ (k : Int) := by omega
      have k1 : (k : Int) < (N : Int) := by omega
      obtain ⟨hi, he⟩ := List.getElem?_eq_some_iff.1 hz
      have DR := Lib.hid (show zs.drop k = s :: zs.drop (k + 1) by rw [List.drop_eq_getElem_cons hi, he])
      obtain ⟨n, hn⟩ : ∃ n, s.size = n := ⟨_, rfl⟩
      have hns : n ≤ 9223372036854775807 := by rw [← hn]; unfold maxLen at hz4; omega
      by_cases g : y ≤ (n : Int)
      · have EV := Lib.hid (show lgV zs m = true by rw [← HV.out, DR.out]; unfold lgV; rw [hn, if_pos g])
        have t1 : decide (y ≤ (n : Int)) = true := decide_eq_true g
        clear hz hz2 hz3 hz4 hi he hk hlt
        go_wp2_with fail
        go_ret
        exact ⟨by rw [EV.out]; rfl, HB.out⟩
      · have EV := Lib.hid (show lgV (zs.drop (k + 1)) (y - n - 1) = lgV zs m by rw [← HV.out, DR.out]; conv => rhs; unfold lgV; rw [hn, if_neg g])
        have t1 : decide (y ≤ (n : Int)) = false := decide_eq_false g
        have e1 : IntKind.i64.wrap (y - (n : Int)) = y - n := by rw [IntKind.wrap_i64]; omega
        have e2 : IntKind.i64.wrap (y - (n : Int) - 1) = y - n - 1 := by rw [IntKind.wrap_i64]; omega
        have Y0 := Lib.hid (show 0 ≤ y - n - 1 ∧ y - n - 1 ≤ 1000000 by omega)
        have HK1 := Lib.hid (show k + 1 ≤ N from hlt)
        clear hz hz2 hz3 hz4 hi he hk hlt
        go_wp2_with fail
        go_roundw
        case rel => exact ⟨k + 1, y - n - 1, HK1.out, by go_num, by go_num, Y0.out.1, Y0.out.2, EV.out, HB.out⟩
        case measure => simp [intOf]; have := HK1.out; omega
    · obtain rfl : N = k := by omega
      have EV := Lib.hid (show lgV zs m = false by rw [← HV.out, List.drop_of_length_le (by rw [HN.out]; exact Nat.le_refl _)]; rfl)
      go_wp2_with fail
      go_ret
      exact ⟨by rw [EV.out]; rfl, HB.out⟩
/-- Strings as cells. -/
def strVs (l : List ByteArray) : List Value := l.map fun s => .string s
theorem strVs_len (l : List ByteArray) : (strVs l).length = l.length := List.length_map ..
theorem strVs_add (l : List ByteArray) (s : ByteArray) : strVs l ++ [.string s] = strVs (l ++ [s]) := by unfold strVs; rw [List.map_append]; rfl
theorem strVs_at {l : List ByteArray} {k : Nat} {s : ByteArray} (h : l[k]? = some s) : (strVs l)[k]? = some (.string s) := by unfold strVs; rw [List.getElem?_map, h]; rfl
theorem row_cell {w : World} {base g n c : Nat} {l : List ByteArray} (h : w.ownsRow base 9 1 (.slice (some ⟨g, 0, none⟩) n c) n (strVs l)) {k : Nat} {s : ByteArray} (hk : l[k]? = some s) : w.cell? ⟨g, k, none⟩ = some (.string s) := by
  have := h.cells (g := g) rfl k _ (strVs_at hk)
  rwa [add_off, Nat.zero_add] at this
set_option maxHeartbeats 4000000 in
theorem sameStrings_any (sa sb : Option Addr) (n ca cb b1 b2 : Nat) (l : List ByteArray) (hl : l.length = n) (hn : n ≤ 1000000) (w : World) (RA : w.ownsRow b1 9 1 (.slice sa n ca) n (strVs l)) (RB : w.ownsRow b2 9 1 (.slice sb n cb) n (strVs l)) :
    Calls Try.prog 31 #[.slice sa n ca, .slice sb n cb] w fun e w' => e = .returned (.bool true) ∧ Below w.heap.size w w' := by
  have e1 : ((n : Int) == (n : Int)) = true := by simp
  have e2 : ((n : Int) != (n : Int)) = false := by simp
  by_cases n0 : n = 0
  · subst n0
    have B := Below.refl w.heap.size w
    clear RA RB
    go_enter Try.func31, Try.ntmps31
    go_wp2_with fail
    refine wp_loop_rounds 1 ?_
    rw [rounds_succ]
    go_wp2_with fail
    go_ret
    exact ⟨rfl, B⟩
  · obtain ⟨g1, rfl, _, T1⟩ := row_some RA (by omega)
    obtain ⟨g2, rfl, _, T2⟩ := row_some RB (by omega)
    have l1 := T1.lt
    have l2 := T2.lt
    have CA := Lib.hid (fun k s (hk : l[k]? = some s) => row_cell RA hk)
    have CB := Lib.hid (fun k s (hk : l[k]? = some s) => row_cell RB hk)
    have HL := Lib.hid hl
    have B := Below.refl w.heap.size w
    clear RA RB T1 T2 hl
    go_enter Try.func31, Try.ntmps31
    go_wp2_with fail
    go_loopw [5] (fun i wr => ∃ k : Nat, k ≤ n ∧ i = .int .i64 k ∧ Below w.heap.size w wr) (fun i _ => n - (intOf i).toNat)
    case atStart => exact ⟨0, Nat.zero_le _, rfl, B⟩
    case round =>
      obtain ⟨k, hk, rfl, hB⟩ := hrel
      have HB := Lib.hid hB
      by_cases hlt : k < n
      · obtain ⟨s, hz⟩ : ∃ z, l[k]? = some z := ⟨l[k]'(by have := HL.out; omega), List.getElem?_eq_getElem (by have := HL.out; omega)⟩
        have qa0 : wr.cell? ⟨g1, k, none⟩ = some (.string s) := (hB.cell (p := ⟨g1, k, none⟩) l1).trans (CA.out k _ hz)
        have qb0 : wr.cell? ⟨g2, k, none⟩ = some (.string s) := (hB.cell (p := ⟨g2, k, none⟩) l2).trans (CB.out k _ hz)
        have k0 : (0 : Int) ≤ (k : Int) := by omega
        have k1 : (k : Int) < (n : Int) := by omega
        have z4 : (s.toList == s.toList) = true := by simp
        clear hB hz
        go_wp2_with fail
        go_quiet (fail)
        go_wp2_with fail
        go_roundw
        case rel => exact ⟨k + 1, by omega, by go_num, below_drewN HB.out _⟩
        case measure => simp [intOf]; omega
      · obtain rfl : n = k := by omega
        clear hB
        go_wp2_with fail
        go_ret
        exact ⟨rfl, HB.out⟩
theorem info_str : (Try.prog.info? 9).map (fun i => (i.zero, i.size, i.bytes)) = some (some (.string ⟨#[]⟩), 1, 16) := by kernel_rfl
theorem own_ty {w : World} {base e size n k : Nat} {v : Value} {xs : List Value} (h : w.ownsRow base e size v n xs) (hk : v.ownBlock = some k) : base ≤ k ∧ TyB w k e := by
  obtain ⟨_, h⟩ := h
  rcases h with ⟨q, _⟩ | ⟨g, c, cur, q1, q2, q3, _⟩
  · rw [q] at hk; cases hk
  · rw [q1] at hk
    cases hk
    exact ⟨q2, cur, _, q3⟩
theorem Kp.of_grown {base : Nat} {t : TypeId} {w w' : World} {row : Option Nat} (h : w.grownBy w' row) (hr : ∀ k, row = some k → base ≤ k ∧ TyB w k t) (hb : base ≤ w.heap.size) : Kp base [t] false w w' where
  below := ⟨h.os, h.tape, h.output, h.size, fun i hi => h.block i (Nat.lt_of_lt_of_le hi hb) (fun e => by have := (hr i e.symm).1; omega)⟩
  cells := fun b cur u fr e hu => h.block b (Array.getElem?_eq_some_iff.1 e).1 (fun q => by
    obtain ⟨cur', fr', e'⟩ := (hr b q.symm).2
    rw [e] at e'
    cases e'
    exact hu (by simp))
  maps := fun _ b es c e => h.block b (Array.getElem?_eq_some_iff.1 e).1 (fun q => by
    obtain ⟨cur', fr', e'⟩ := (hr b q.symm).2
    rw [e] at e'
    cases e')
theorem Kp.weaken {base : Nat} {ts ts' : List TypeId} {m m' : Bool} {w w' : World} (h : Kp base ts m w w') (hs : ∀ t, t ∈ ts → t ∈ ts') (hm : m' = false → m = false) : Kp base ts' m' w w' :=
  ⟨h.below, fun b cur t fr e hn => h.cells b cur t fr e (fun q => hn (hs t q)), fun q => h.maps (hm q)⟩
end Go.Proofs.Ytphkaambodecdaa
