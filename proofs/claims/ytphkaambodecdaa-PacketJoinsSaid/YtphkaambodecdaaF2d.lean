/- FldBits, FldUnpack, FldUnpack2 of layer 2 as one text, under names of their own. -/
import Derived.Test.YtphkaambodecdaaF2c
/- Bits of strings that were changed: plain mathematics. -/
namespace Go.Proofs.Ytphkaambodecdaa
theorem len_ne {m n : Nat} (h : m ≠ n) : ((m : Int) == (n : Int)) = false ∧ ((m : Int) != (n : Int)) = true := by constructor <;> (simp; omega)
theorem len_eq {m n : Nat} (h : m = n) : ((m : Int) == (n : Int)) = true ∧ ((m : Int) != (n : Int)) = false := by constructor <;> (simp; omega)
namespace Fld
theorem bit_of (l : List UInt8) (j d : Nat) (h : d < 8) : bit l (8 * j + d) = (l.getD j 0).toNat / 2 ^ (7 - d) % 2 := by
  unfold bit
  rw [show (8 * j + d) / 8 = j by omega, show (8 * j + d) % 8 = d by omega]
theorem setB_bit : ∀ y, y < 256 → ∀ d, d < 8 → ∀ x, x < 2 → setB y d x < 256 ∧ ∀ e, e < 8 → setB y d x / 2 ^ e % 2 = if e = d then x else y / 2 ^ e % 2 := by decide +kernel
theorem bit_set (l : List UInt8) (i x k : Nat) (hi : i / 8 < l.length) (hx : x < 2) : bit (set l i x) k = if k = i then x else bit l k := by
  have hy : (l.getD (i / 8) 0).toNat < 256 := UInt8.toNat_lt _
  obtain ⟨h1, h2⟩ := setB_bit _ hy (7 - i % 8) (by omega) x hx
  unfold bit
  by_cases e : k / 8 = i / 8
  · rw [e, set_at l i x hi, UInt8.toNat_ofNat_of_lt' h1, h2 (7 - k % 8) (by omega)]
    by_cases f : k = i
    · subst f; rw [if_pos rfl, if_pos rfl]
    · rw [if_neg (by omega), if_neg f]
  · rw [set_off l i x (k / 8) e, if_neg (by intro f; subst f; exact e rfl)]
theorem ext_bits (a b : List UInt8) (h : a.length = b.length) (k : ∀ i, i < 8 * a.length → bit a i = bit b i) : a = b := by
  apply List.ext_getElem h
  intro j h1 h2
  have e : ∀ d, d < 8 → (a.getD j 0).toNat / 2 ^ (7 - d) % 2 = (b.getD j 0).toNat / 2 ^ (7 - d) % 2 := fun d hd => by
    rw [← bit_of a j d hd, ← bit_of b j d hd]
    exact k _ (by omega)
  have e0 := e 0 (by omega)
  have e1 := e 1 (by omega)
  have e2 := e 2 (by omega)
  have e3 := e 3 (by omega)
  have e4 := e 4 (by omega)
  have e5 := e 5 (by omega)
  have e6 := e 6 (by omega)
  have e7 := e 7 (by omega)
  have hx : (a.getD j 0).toNat < 256 := UInt8.toNat_lt _
  have hy : (b.getD j 0).toNat < 256 := UInt8.toNat_lt _
  have ga : a.getD j 0 = a[j] := by simp [List.getD, h1]
  have gb : b.getD j 0 = b[j] := by simp [List.getD, h2]
  rw [ga, gb] at e0 e1 e2 e3 e4 e5 e6 e7
  rw [ga] at hx
  rw [gb] at hy
  apply UInt8.toNat_inj.1
  generalize a[j].toNat = x at *
  generalize b[j].toNat = y at *
  clear e k ga gb h
  simp only [Nat.reduceSub, Nat.reducePow] at e0 e1 e2 e3 e4 e5 e6 e7
  omega
theorem bit_put (l : List UInt8) (p w v : Nat) (h : p + w ≤ 8 * l.length) : ∀ m, m ≤ w → ∀ k, bit (put l p w v m) k = if p ≤ k ∧ k < p + m then v / 2 ^ (w - 1 - (k - p)) % 2 else bit l k
  | 0, _, k => by unfold put; rw [if_neg (by omega)]
  | m + 1, hm, k => by
    unfold put
    rw [bit_set _ _ _ _ (by rw [put_length]; omega) (Nat.mod_lt _ (by omega)), bit_put l p w v h m (by omega) k]
    by_cases e : k = p + m
    · subst e
      rw [if_pos rfl, if_pos (by omega), show p + m - p = m by omega]
    · rw [if_neg e]
      by_cases f : p ≤ k ∧ k < p + m
      · rw [if_pos f, if_pos (by omega)]
      · rw [if_neg f, if_neg (by omega)]
end Fld
end Go.Proofs.Ytphkaambodecdaa
/- The contract of package fields' Unpack over this program. -/
namespace Go.Proofs.Ytphkaambodecdaa
open Go.RowKit Go.Shelf
set_option linter.unusedVariables false

namespace Fld
/-- The number of field k of fields one after the other. -/
def uv (l : List UInt8) (fs : List Nat) (k : Nat) : Nat := num l (tot (fs.take k)) (fs.getD k 0)
def restB (l : List UInt8) (p : Nat) : Bool := (List.range (8 * l.length)).all fun i => decide (i < p) || decide (bit l i = 0)
theorem restB_iff (l : List UInt8) (p : Nat) : restB l p = true ↔ ∀ i, p ≤ i → i < 8 * l.length → bit l i = 0 := by
  unfold restB
  rw [List.all_eq_true]
  constructor
  · intro h i a b
    have := h i (by simpa using b)
    simp at this
    omega
  · intro h i hi
    have := h i
    simp at hi ⊢
    omega
theorem num_zero (l : List UInt8) (p : Nat) : ∀ w, num l p w = 0 ↔ ∀ i, i < w → bit l (p + i) = 0
  | 0 => by simp [num]
  | w + 1 => by
    unfold num
    constructor
    · intro h i hi
      by_cases e : i = w
      · subst e; omega
      · exact (num_zero l p w).1 (by omega) i (by omega)
    · intro h
      have := (num_zero l p w).2 (fun i hi => h i (by omega))
      have := h w (by omega)
      omega
def unpE (zs : List Int) (l : List UInt8) : Int :=
  if allW zs = true then (if l.length = (tot (nats zs) + 7) / 8 ∧ restB l (tot (nats zs)) = true then 0 else 6) else 2
def vals (ns : List Nat) (l : List UInt8) : List Nat := (List.range ns.length).map (uv l ns)
theorem vals_length (ns : List Nat) (l : List UInt8) : (vals ns l).length = ns.length := by simp [vals]
theorem vals_get (ns : List Nat) (l : List UInt8) (j : Nat) (h : j < ns.length) : (vals ns l).getD j 0 = uv l ns j := by simp [vals, List.getD, h]
def unpV (zs : List Int) (l : List UInt8) : List Nat := if unpE zs l = 0 then vals (nats zs) l else []
theorem fill_take (ns : List Nat) (j : Nat) (h : j ≤ ns.length) : (fill ns).take j = ns.take j := by
  unfold fill
  split
  · rfl
  · rw [List.take_append_of_le_length h]
theorem fill_get (ns : List Nat) (j : Nat) (h : j < ns.length) : (fill ns).getD j 0 = ns.getD j 0 := by
  unfold fill
  split
  · rfl
  · simp [List.getD, List.getElem?_append_left h]
theorem uv_fill (l : List UInt8) (ns : List Nat) (j : Nat) (h : j < ns.length) : uv l (fill ns) j = uv l ns j := by
  unfold uv
  rw [fill_take ns j (by omega), fill_get ns j h]
end Fld
theorem info_u64 : (Try.prog.info? 107).map (fun i => (i.zero, i.size, i.bytes)) = some (some (.int .u64 0), 1, 8) := by kernel_rfl

/-- What Unpack returns. -/
def Unpacked (zs : List Int) (l : List UInt8) (w : World) (e : Ending) (w' : World) : Prop :=
  ∃ a' cap', e = .returned (.tuple #[.slice a' (Fld.unpV zs l).length cap', .int .i64 (Fld.unpE zs l)]) ∧ (Fld.unpV zs l).length ≤ cap' ∧ FReads .u64 w' a' ((Fld.unpV zs l).map Int.ofNat) ∧ Below w.heap.size w w' ∧ ∀ b off, a' = some ⟨b, off, none⟩ → w.heap.size ≤ b
theorem unpacked_no {zs : List Int} {l : List UInt8} {w w' : World} {x : Int} (h : Fld.unpE zs l = x) (hx : x ≠ 0) (hb : Below w.heap.size w w') : Unpacked zs l w (.returned (.tuple #[.slice none 0 0, .int .i64 x])) w' := by
  have e : Fld.unpV zs l = [] := by unfold Fld.unpV; rw [h, if_neg hx]
  exact ⟨none, 0, by rw [e, h]; rfl, by rw [e]; exact Nat.le_refl _, .inl (by rw [e]; rfl), hb, fun b off h => by cases h⟩
/-- The block b holds m numbers, and they may be written. -/
def Nums (W : World) (b m : Nat) (f : Nat → Nat) : Prop := ∀ j, j < m → W.cell? ⟨b, j, none⟩ = some (.int .u64 (f j : Nat)) ∧ W.frozen? ⟨b, j, none⟩ = false
theorem Nums.set {W : World} {b m : Nat} {f g : Nat → Nat} (h : Nums W b m f) (k x : Nat) (hk : k < m) (hx : g k = x) (hg : ∀ j, j < m → j ≠ k → g j = f j) : Nums (W.setCell ⟨b, k, none⟩ (.int .u64 x)) b m g := by
  intro j hj
  obtain ⟨h1, h2⟩ := h j hj
  refine ⟨?_, by rw [World.frozen?_setCell]; exact h2⟩
  by_cases e : j = k
  · subst e
    rw [World.cell?_setCell_same' _ _ _ (by rw [h1]; rfl), hx]
  · rw [World.cell?_setCell_other (h := addr_ne_off (fun x => e x.symm)), hg j hj e]
    exact h1
theorem Nums.below {W W' : World} {b m : Nat} {f : Nat → Nat} (h : Nums W b m f) (hb : Below W.heap.size W W') (hl : b < W.heap.size) : Nums W' b m f := fun j hj =>
  ⟨(hb.cell (p := ⟨b, j, none⟩) hl).trans (h j hj).1, (hb.frozen (p := ⟨b, j, none⟩) hl).trans (h j hj).2⟩
theorem nums_made {w : World} {base b n cap : Nat} {zs : List Value} (h : w.ownsRow base 107 1 (.slice (some ⟨b, 0, none⟩) n cap) n zs) (hz : ∀ j, j < n → zs[j]? = some (.int .u64 0)) : Nums w b n (fun _ => 0) ∧ b < w.heap.size := by
  obtain ⟨hl, h⟩ := h
  rcases h with ⟨hv, _⟩ | ⟨g, c, cur, hv, hb, hg, hnc, hm, hsz, ht⟩
  · simp at hv
  · simp only [Value.slice.injEq, Option.some.injEq, Addr.mk.injEq] at hv
    obtain ⟨⟨rfl, _, _⟩, _, rfl⟩ := hv
    refine ⟨fun j hj => ?_, (Array.getElem?_eq_some_iff.1 hg).1⟩
    have e1 : w.cell? ⟨b, j, none⟩ = cur[j]? := by
      unfold World.cell?
      rw [hg]
      simp
    have e2 : (cur.toList.take (n * 1))[j]? = cur[j]? := by
      rw [List.getElem?_take_of_lt (by omega)]
      simp
    refine ⟨?_, ?_⟩
    · rw [e1, ← e2, ht, hz j hj]
      rfl
    · unfold World.frozen?
      rw [hg]
      simp
theorem made_zero64 (n j : Nat) (h : j < n) : (madeCells (Value.int IntKind.u64 0).cells (n * 1)).toList[j]? = some (.int .u64 0) := by
  unfold madeCells
  simp [Value.cells, h, Nat.mod_one]

set_option maxHeartbeats 1000000 in
theorem unp_bad (a : Option Addr) (cap : Nat) (zs : List Int) (s : ByteArray) (n : Nat) (hn : zs.length = n) (hl : n ≤ 500) (hs : s.size ≤ 5000) (hw : Fld.allW zs = false) (w : World) (R : FReads .i64 w a zs) :
    Calls Try.prog 61 #[.slice a n cap, .string s] w (Unpacked zs s.data.toList w) := by
  have A := Lib.hid (areWidths_any a cap zs (by omega) w R)
  rw [hw, hn] at A
  have Q := Lib.hid (unpacked_no (l := s.data.toList) (show Fld.unpE zs s.data.toList = 2 by unfold Fld.unpE; rw [hw]; rfl) (by omega) (Below.refl w.heap.size w))
  clear hw hn R
  go_enter Try.func61, Try.ntmps61
  go_wp2_with fail
  (with_reducible refine A.out.mono ?_)
  rintro e w' ⟨rfl, rfl⟩
  go_wp2_with fail
  go_ret2
  exact Q.out

set_option maxHeartbeats 1000000 in
theorem unp_len (a : Option Addr) (cap : Nat) (zs : List Int) (s : ByteArray) (n : Nat) (hn : zs.length = n) (hl : n ≤ 500) (hc : n ≤ cap) (hm : cap ≤ 9223372036854775807) (hs : s.size ≤ 5000) (hw : Fld.allW zs = true) (hne : s.size ≠ (Fld.tot (Fld.nats zs) + 7) / 8) (w : World) (R : FReads .i64 w a zs) :
    Calls Try.prog 61 #[.slice a n cap, .string s] w (Unpacked zs s.data.toList w) := by
  have ls : s.data.toList.length = s.size := by simp
  have A := Lib.hid (areWidths_any a cap zs (by omega) w R)
  rw [hw, hn] at A
  have uE : Fld.unpE zs s.data.toList = 6 := by unfold Fld.unpE; rw [if_pos hw, if_neg (by rw [ls]; intro h; exact hne h.1)]
  have nl : (Fld.nats zs).length = n := by rw [Fld.nats_length, hn]
  have nb : ∀ j, j < (Fld.nats zs).length → (Fld.nats zs).getD j 0 ≤ 64 := fun j hj => (Fld.nats_get hw j (by omega)).2.2
  have R2 : FReads .i64 w a ((Fld.nats zs).map Int.ofNat) := by rw [Fld.nats_map hw]; exact R
  have FI := Lib.hid (filled_any a cap (Fld.nats zs) (by omega) (by omega) hm nb w R2)
  rw [nl] at FI
  have tb := Fld.tot_le (Fld.nats zs) 64 nb (Fld.nats zs).length (Nat.le_refl _)
  rw [List.take_length] at tb
  have FL := Lib.hid (Fld.fill_le (Fld.nats zs) nb)
  have fll := Fld.fill_length (Fld.nats zs)
  have ft := Fld.fill_tot (Fld.nats zs)
  obtain ⟨fs, hfs⟩ : ∃ fs, Fld.fill (Fld.nats zs) = fs := ⟨_, rfl⟩
  have FLN := Lib.hid (show fs.length ≤ 501 by rw [← hfs]; omega)
  obtain ⟨t2, ht2⟩ : ∃ t, Fld.tot fs = t := ⟨_, rfl⟩
  rw [hfs, ht2] at ft
  have HF := Lib.hid hfs
  have HT := Lib.hid ht2
  obtain ⟨q1, q2⟩ := len_ne (show t2 ≠ 8 * s.size by omega)
  have q3 : ((t2 : Int) == 8 * (s.size : Int)) = false := by simp; omega
  have q4 : ((t2 : Int) != 8 * (s.size : Int)) = true := by simp; omega
  have t9 : t2 ≤ 50000 := by omega
  have UE := Lib.hid uE
  clear hw hn R R2 tb ft fll nb nl hne hfs ht2 ls uE
  go_enter Try.func61, Try.ntmps61
  go_wp2_with fail
  (with_reducible refine A.out.mono ?_)
  rintro e w' ⟨rfl, rfl⟩
  go_wp2_with fail
  (with_reducible refine FI.out.mono ?_)
  rintro e w1 ⟨a', cap', rfl, hfc, hfr, hfb⟩
  rw [HF.out] at hfr ⊢
  have T2 := Lib.hid (total_any a' cap' fs (by have := FLN.out; omega) (by rw [← HF.out]; exact FL.out) w1 hfr)
  rw [HT.out] at T2
  have HFB := Lib.hid hfb
  clear hfb hfr hfc
  go_wp2_with fail
  (with_reducible refine T2.out.mono ?_)
  rintro e w' ⟨rfl, rfl⟩
  go_wp2_with fail
  go_ret2
  exact unpacked_no UE.out (by omega) HFB.out
end Go.Proofs.Ytphkaambodecdaa
/- The contract of package fields' Unpack over this program, where the length fits. -/
namespace Go.Proofs.Ytphkaambodecdaa
open Go.RowKit Go.Shelf
set_option linter.unusedVariables false

theorem unp_values {zs : List Int} {l : List UInt8} {w w' : World} {B n cap : Nat} (h : Fld.unpE zs l = 0) (hn : (Fld.nats zs).length = n) (hc : n ≤ cap) (hB : B < w'.heap.size) (hv : ∀ j, j < n → w'.cell? ⟨B, j, none⟩ = some (.int .u64 (Fld.uv l (Fld.nats zs) j : Nat))) (hb : Below w.heap.size w w') (hwB : w.heap.size ≤ B) :
    Unpacked zs l w (.returned (.tuple #[.slice (some ⟨B, 0, none⟩) n cap, .int .i64 0])) w' := by
  have e : Fld.unpV zs l = Fld.vals (Fld.nats zs) l := by unfold Fld.unpV; rw [if_pos h]
  have el : (Fld.unpV zs l).length = n := by rw [e, Fld.vals_length, hn]
  refine ⟨some ⟨B, 0, none⟩, cap, by rw [el, h], by rw [el]; exact hc, .inr ⟨B, 0, rfl, hB, fun j hj => ?_⟩, hb, fun b off h => by cases h; exact hwB⟩
  have hj' : j < n := by rw [List.length_map, el] at hj; exact hj
  rw [Nat.zero_add, hv j hj', getD_ofNat _ _ (by rw [el]; exact hj'), e, Fld.vals_get _ _ _ (by rw [hn]; exact hj')]

set_option maxRecDepth 100000 in
set_option maxHeartbeats 4000000 in
theorem unp_ok (a : Option Addr) (cap : Nat) (zs : List Int) (s : ByteArray) (n : Nat) (hn : zs.length = n) (n0 : 0 < n) (hl : n ≤ 500) (hc : n ≤ cap) (hm : cap ≤ 9223372036854775807) (hs : s.size ≤ 5000) (hw : Fld.allW zs = true) (heq : s.size = (Fld.tot (Fld.nats zs) + 7) / 8) (w : World) (R : FReads .i64 w a zs) :
    Calls Try.prog 61 #[.slice a n cap, .string s] w (Unpacked zs s.data.toList w) := by
  have ls : s.data.toList.length = s.size := by simp
  have A := Lib.hid (areWidths_any a cap zs (by omega) w R)
  rw [hw, hn] at A
  have nl : (Fld.nats zs).length = n := by rw [Fld.nats_length, hn]
  have nb : ∀ j, j < (Fld.nats zs).length → (Fld.nats zs).getD j 0 ≤ 64 := fun j hj => (Fld.nats_get hw j (by omega)).2.2
  have R2 : FReads .i64 w a ((Fld.nats zs).map Int.ofNat) := by rw [Fld.nats_map hw]; exact R
  have FI := Lib.hid (filled_any a cap (Fld.nats zs) (by omega) (by omega) hm nb w R2)
  rw [nl] at FI
  have tb := Fld.tot_le (Fld.nats zs) 64 nb (Fld.nats zs).length (Nat.le_refl _)
  rw [List.take_length] at tb
  have fb := Fld.fill_le (Fld.nats zs) nb
  have FL := Lib.hid fb
  have fll := Fld.fill_length (Fld.nats zs)
  have ft := Fld.fill_tot (Fld.nats zs)
  have UVF := Lib.hid (Fld.uv_fill s.data.toList (Fld.nats zs))
  have fse : (Fld.tot (Fld.nats zs) % 8 = 0 ∧ Fld.fill (Fld.nats zs) = Fld.nats zs) ∨ (Fld.tot (Fld.nats zs) % 8 ≠ 0 ∧ Fld.fill (Fld.nats zs) = Fld.nats zs ++ [8 - Fld.tot (Fld.nats zs) % 8]) := by
    unfold Fld.fill
    split
    · exact .inl ⟨‹_›, rfl⟩
    · exact .inr ⟨‹_›, rfl⟩
  have FSE := Lib.hid fse
  obtain ⟨fs, hfs⟩ : ∃ fs, Fld.fill (Fld.nats zs) = fs := ⟨_, rfl⟩
  obtain ⟨m, hm'⟩ : ∃ m, fs.length = m := ⟨_, rfl⟩
  have mn : n ≤ m ∧ m ≤ n + 1 := by
    rcases fse with ⟨_, e⟩ | ⟨_, e⟩
    · rw [hfs] at e; rw [← hm', e, nl]; omega
    · rw [hfs] at e; rw [← hm', e, List.length_append, nl]; simp
  have tt : Fld.tot fs = 8 * s.size := by rw [hfs] at ft; omega
  have TM := Lib.hid (Fld.tot_mono fs)
  have TS := Lib.hid (Fld.tot_take_succ fs)
  have HF := Lib.hid hfs
  have HT := Lib.hid tt
  have HM := Lib.hid hm'
  obtain ⟨q1, q2⟩ : ((8 * (s.size : Int)) == 8 * (s.size : Int)) = true ∧ ((8 * (s.size : Int)) != 8 * (s.size : Int)) = false := by constructor <;> simp
  have HW := Lib.hid hw
  have HEQ := Lib.hid heq
  have NL := Lib.hid nl
  have LS := Lib.hid ls
  obtain ⟨m1, m2⟩ := mn
  clear hw hn R R2 tb ft fll nb nl hfs ls heq fb tt hm' fse
  go_enter Try.func61, Try.ntmps61
  go_wp2_with fail
  (with_reducible refine A.out.mono ?_)
  rintro e w' ⟨rfl, rfl⟩
  go_wp2_with fail
  (with_reducible refine FI.out.mono ?_)
  rintro e w1 ⟨a', cap', rfl, hfc, hfr, hfb⟩
  rw [HF.out] at hfr hfc ⊢
  rw [HM.out] at hfc ⊢
  have T2 := Lib.hid (total_any a' cap' fs (by have := HM.out; omega) (by rw [← HF.out]; exact FL.out) w1 hfr)
  rw [HT.out, HM.out] at T2
  have HFB := Lib.hid hfb
  obtain ⟨bA, oA, rfl, lA, cA⟩ := hfr.cell (by rw [List.length_map, HM.out]; omega)
  have CA := Lib.hid (fun j (h : j < m) => (cA j (by rw [List.length_map, HM.out]; exact h)).trans (by rw [getD_ofNat _ _ (by rw [HM.out]; exact h)] : some (Value.int IntKind.i64 ((fs.map Int.ofNat).getD j 0)) = some (.int .i64 (fs.getD j 0 : Nat))))
  clear hfb hfr cA
  have t8 : ((8 * s.size : Nat) : Int) = 8 * (s.size : Int) := by omega
  rw [t8] at T2
  clear t8
  go_wp2_with fail
  (with_reducible refine T2.out.mono ?_)
  rintro e w' ⟨rfl, rfl⟩
  obtain ⟨i0, hi, hz0, hz1, hz2⟩ := info_parts info_u64
  go_wp2_with (at_make; refine wpList_make_full _ rfl _ _ 106 rfl w1.heap.size 107 i0 (.int .u64 0) 1 Try.underlying106 hi hz0 hz1 .i64 .i64 _ _ m rfl rfl rfl rfl (by rw [hz2]; omega) (by unfold maxLen; omega) (Nat.le_refl _) ?_; intro w2 hown hgrow)
  obtain ⟨hnu, hBf⟩ := nums_made hown (fun j hj => made_zero64 m j hj)
  have hb2 : Below w1.heap.size w1 w2 := (Below.refl _ _).grown hgrow (Nat.le_refl _) (fun k e => by cases e)
  obtain ⟨B, hB⟩ : ∃ B, w1.heap.size = B := ⟨_, rfl⟩
  rw [hB] at hnu hBf hb2 lA ⊢
  have hwB : w.heap.size ≤ B := by rw [← hB]; exact HFB.out.size
  have HNU := Lib.hid hnu
  have HB2 := Lib.hid hb2
  have HBE := Lib.hid hB
  clear hb2 hown hgrow hB hi hz0 hz1 hz2 hnu
  go_loopw [8, 33] (fun p i wr => ∃ k : Nat, k ≤ m ∧ i = .int .i64 k ∧ p = .int .i64 (Fld.tot (fs.take k) : Nat) ∧ Nums wr B m (fun j => if j < k then Fld.uv s.data.toList fs j else 0) ∧ Below B w1 wr ∧ B < wr.heap.size) (fun _ i _ => m - (intOf i).toNat)
  case atStart => exact ⟨0, Nat.zero_le _, rfl, rfl, HNU.out, HB2.out, hBf⟩
  case round =>
    obtain ⟨k, hk, rfl, rfl, hnu, hB, hBs⟩ := hrel
    by_cases hlt : k < m
    · have q3 := (hB.cell (p := ⟨bA, oA + k, none⟩) lA).trans (CA.out k hlt)
      have ts := TS.out k (by rw [HM.out]; exact hlt)
      have tm := TM.out (k + 1)
      rw [HT.out] at tm
      have fb := FL.out k (by rw [HF.out, HM.out]; exact hlt)
      rw [HF.out] at fb
      have uvk : Fld.uv s.data.toList fs k = Fld.num s.data.toList (Fld.tot (fs.take k)) (fs.getD k 0) := rfl
      obtain ⟨x, hx⟩ : ∃ x, fs.getD k 0 = x := ⟨_, rfl⟩
      obtain ⟨p, hp⟩ : ∃ p, Fld.tot (fs.take k) = p := ⟨_, rfl⟩
      obtain ⟨p', hp'⟩ : ∃ p, Fld.tot (fs.take (k + 1)) = p := ⟨_, rfl⟩
      obtain ⟨u, hu⟩ : ∃ u, Fld.num s.data.toList p x = u := ⟨_, rfl⟩
      rw [hx] at q3 ts fb uvk
      rw [hp] at ts uvk ⊢
      rw [hp'] at ts tm
      rw [hu] at uvk
      have RD := Lib.hid (read_any s p x (by omega) (by omega) fb wr)
      rw [hu] at RD
      have TS2 := Lib.hid ts
      have HP := Lib.hid hp'
      have UK := Lib.hid uvk
      have HNU2 := Lib.hid hnu
      have HB3 := Lib.hid hB
      have p1 : p ≤ 50000 := by omega
      clear hnu hB ts hx hp hp' tm uvk hu
      go_wp2_with fail
      (with_reducible refine RD.out.mono ?_)
      rintro e w4 ⟨rfl, hB4⟩
      have N4 := HNU2.out.below hB4 hBs
      obtain ⟨n1, n2⟩ := N4 k hlt
      have NN := Lib.hid (N4.set (g := fun j => if j < k + 1 then Fld.uv s.data.toList fs j else 0) k u hlt (by rw [if_pos (by omega)]; exact UK.out) (fun j hj hjk => by
        by_cases e : j < k
        · rw [if_pos e, if_pos (by omega)]
        · rw [if_neg e, if_neg (by omega)]))
      have BB4 := Lib.hid ((HB3.out.trans (hB4.mono (by omega))).setCell (p := ⟨B, k, none⟩) (Nat.le_refl _) (.int .u64 u))
      have BS4 : B < w4.heap.size := Nat.lt_of_lt_of_le hBs hB4.size
      clear N4 hB4
      go_wp2_with fail
      go_roundw
      case rel => exact ⟨k + 1, by omega, by go_num, by rw [HP.out, TS2.out]; go_num, NN.out, BB4.out, by simpa [World.setCell] using BS4⟩
      case measure => simp [intOf]; omega
    · obtain rfl : m = k := by omega
      have HNU2 := Lib.hid hnu
      have HB3 := Lib.hid hB
      have HBW := Lib.hid (show Below w.heap.size w wr from HFB.out.trans (hB.mono hwB))
      clear hnu hB
      have k1 : ¬ m < m := Nat.lt_irrefl _
      have NC := Lib.hid (show ∀ j, j < m → wr.cell? ⟨B, j, none⟩ = some (.int .u64 (Fld.uv s.data.toList fs j : Nat)) from fun j hj => by
        have h := (HNU2.out j hj).1
        dsimp only at h
        rwa [if_pos hj] at h)
      rcases FSE.out with ⟨hr, e⟩ | ⟨hr, e⟩
      · have fn : fs = Fld.nats zs := by rw [← HF.out]; exact e
        obtain rfl : n = m := by rw [← NL.out, ← fn]; exact HM.out
        have hu0 : Fld.unpE zs s.data.toList = 0 := by
          unfold Fld.unpE
          rw [if_pos HW.out, if_pos ⟨by rw [LS.out]; exact HEQ.out, (Fld.restB_iff _ _).2 (fun i h1 h2 => by have := HEQ.out; rw [LS.out] at h2; omega)⟩]
        have QQ := Lib.hid (unp_values (w := w) (w' := wr) (cap := n) hu0 NL.out (Nat.le_refl _) hBs (fun j hj => by rw [← fn]; exact NC.out j hj) HBW.out hwB)
        clear hu0 hr e fn
        go_wp2_with fail
        refine wp_loop_rounds 1 ?_
        rw [rounds_succ]
        go_wp2_with fail
        go_ret2
        exact QQ.out
      · have fn : fs = Fld.nats zs ++ [8 - Fld.tot (Fld.nats zs) % 8] := by rw [← HF.out]; exact e
        obtain rfl : m = n + 1 := by rw [← HM.out, fn, List.length_append, NL.out]; rfl
        have hlast := NC.out n (by omega)
        have ft : fs.take n = Fld.nats zs := by rw [fn, List.take_left' NL.out]
        have fg : fs.getD n 0 = 8 - Fld.tot (Fld.nats zs) % 8 := by rw [fn]; simp [List.getD, ← NL.out]
        have hz : Fld.uv s.data.toList fs n = 0 ↔ Fld.restB s.data.toList (Fld.tot (Fld.nats zs)) = true := by
          unfold Fld.uv
          rw [ft, fg, Fld.num_zero, Fld.restB_iff, LS.out]
          have := HEQ.out
          constructor
          · intro h i h1 h2
            have := h (i - Fld.tot (Fld.nats zs)) (by omega)
            rwa [show Fld.tot (Fld.nats zs) + (i - Fld.tot (Fld.nats zs)) = i by omega] at this
          · intro h i hi
            exact h _ (by omega) (by omega)
        obtain ⟨x, hx⟩ : ∃ x, Fld.uv s.data.toList fs n = x := ⟨_, rfl⟩
        rw [hx] at hlast hz
        by_cases xz : x = 0
        · have hu0 : Fld.unpE zs s.data.toList = 0 := by
            unfold Fld.unpE
            rw [if_pos HW.out, if_pos ⟨by rw [LS.out]; exact HEQ.out, hz.1 xz⟩]
          have QQ := Lib.hid (unp_values (w := w) (w' := wr) (cap := n) hu0 NL.out (Nat.le_refl _) hBs (fun j hj => by
            have h := NC.out j (by omega)
            rw [← HF.out, UVF.out j (by rw [NL.out]; exact hj)] at h
            exact h) HBW.out hwB)
          subst xz
          clear hu0 hr e fn ft fg hz hx
          go_wp2_with fail
          go_loop [55] (fun i => ∃ k : Nat, k ≤ 1 ∧ i = .int .i64 k) (fun i => 1 - (intOf i).toNat)
          case atStart => exact ⟨0, by omega, rfl⟩
          case round =>
            obtain ⟨k, hk, rfl⟩ := hrel
            by_cases k0 : k = 0
            · subst k0
              go_wp2_with fail
              go_round
              case rel => exact ⟨1, by omega, by go_num⟩
              case measure => simp [intOf]
            · obtain rfl : k = 1 := by omega
              go_wp2_with fail
              go_ret2
              exact QQ.out
        · have hu0 : Fld.unpE zs s.data.toList = 6 := by
            unfold Fld.unpE
            rw [if_pos HW.out, if_neg (fun h => xz (hz.2 h.2))]
          have QQ := Lib.hid (unpacked_no hu0 (by omega) HBW.out)
          have x1 : ((x : Int) == 0) = false := by simp; omega
          have x2 : ((x : Int) != 0) = true := by simp; omega
          clear hu0 hr e fn ft fg hz hx xz
          go_wp2_with fail
          go_loop [55] (fun i => i = .int .i64 0) (fun i => 1)
          case atStart => rfl
          case round =>
            obtain rfl := hrel
            go_wp2_with fail
            go_ret2
            exact QQ.out
end Go.Proofs.Ytphkaambodecdaa
