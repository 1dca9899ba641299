/- The contract of package fields' Unpack over this program. -/
import Derived.Test.YtgfjmolihobaeaaFldPack2
import Derived.Test.YtgfjmolihobaeaaFldBits
namespace Go.Proofs.Ytgfjmolihobaeaa
open Go.RowKit Go.Shelf
set_option linter.unusedVariables false

namespace Fld
/-- The number of field k of fields one after the other. -/
def uv (l : List UInt8) (fs : List Nat) (k : Nat) : Nat := num l (tot (fs.take k)) (fs.getD k 0)
def restB (l : List UInt8) (p : Nat) : Bool := (List.range (8 * l.length)).all fun i => decide (i < p) || decide (bit l i = 0)
theorem restB_iff (l : List UInt8) (p : Nat) : restB l p = true ↔ ∀ i, p ≤ i → i < 8 * l.length → bit l i = 0 := by
  unfold restB
  rw [List.all_eq_true]
  constructor
  · intro h i a b
    have := h i (by simpa using b)
    simp at this
    omega
  · intro h i hi
    have := h i
    simp at hi ⊢
    omega
theorem num_zero (l : List UInt8) (p : Nat) : ∀ w, num l p w = 0 ↔ ∀ i, i < w → bit l (p + i) = 0
  | 0 => by simp [num]
  | w + 1 => by
    unfold num
    constructor
    · intro h i hi
      by_cases e : i = w
      · subst e; omega
      · exact (num_zero l p w).1 (by omega) i (by omega)
    · intro h
      have := (num_zero l p w).2 (fun i hi => h i (by omega))
      have := h w (by omega)
      omega
def unpE (zs : List Int) (l : List UInt8) : Int :=
  if allW zs = true then (if l.length = (tot (nats zs) + 7) / 8 ∧ restB l (tot (nats zs)) = true then 0 else 6) else 2
def vals (ns : List Nat) (l : List UInt8) : List Nat := (List.range ns.length).map (uv l ns)
theorem vals_length (ns : List Nat) (l : List UInt8) : (vals ns l).length = ns.length := by simp [vals]
theorem vals_get (ns : List Nat) (l : List UInt8) (j : Nat) (h : j < ns.length) : (vals ns l).getD j 0 = uv l ns j := by simp [vals, List.getD, h]
def unpV (zs : List Int) (l : List UInt8) : List Nat := if unpE zs l = 0 then vals (nats zs) l else []
theorem fill_take (ns : List Nat) (j : Nat) (h : j ≤ ns.length) : (fill ns).take j = ns.take j := by
  unfold fill
  split
  · rfl
  · rw [List.take_append_of_le_length h]
theorem fill_get (ns : List Nat) (j : Nat) (h : j < ns.length) : (fill ns).getD j 0 = ns.getD j 0 := by
  unfold fill
  split
  · rfl
  · simp [List.getD, List.getElem?_append_left h]
theorem uv_fill (l : List UInt8) (ns : List Nat) (j : Nat) (h : j < ns.length) : uv l (fill ns) j = uv l ns j := by
  unfold uv
  rw [fill_take ns j (by omega), fill_get ns j h]
end Fld
theorem info_u64 : (Try.prog.info? 23).map (fun i => (i.zero, i.size, i.bytes)) = some (some (.int .u64 0), 1, 8) := by kernel_rfl

/-- What Unpack returns. -/
def Unpacked (zs : List Int) (l : List UInt8) (w : World) (e : Ending) (w' : World) : Prop :=
  ∃ a' cap', e = .returned (.tuple #[.slice a' (Fld.unpV zs l).length cap', .int .i64 (Fld.unpE zs l)]) ∧ (Fld.unpV zs l).length ≤ cap' ∧ Reads .u64 w' a' ((Fld.unpV zs l).map Int.ofNat) ∧ Below w.heap.size w w'
theorem unpacked_no {zs : List Int} {l : List UInt8} {w w' : World} {x : Int} (h : Fld.unpE zs l = x) (hx : x ≠ 0) (hb : Below w.heap.size w w') : Unpacked zs l w (.returned (.tuple #[.slice none 0 0, .int .i64 x])) w' := by
  have e : Fld.unpV zs l = [] := by unfold Fld.unpV; rw [h, if_neg hx]
  exact ⟨none, 0, by rw [e, h]; rfl, by rw [e]; exact Nat.le_refl _, .inl (by rw [e]; rfl), hb⟩
/-- The block b holds m numbers, and they may be written. -/
def Nums (W : World) (b m : Nat) (f : Nat → Nat) : Prop := ∀ j, j < m → W.cell? ⟨b, j, none⟩ = some (.int .u64 (f j : Nat)) ∧ W.frozen? ⟨b, j, none⟩ = false
theorem Nums.set {W : World} {b m : Nat} {f g : Nat → Nat} (h : Nums W b m f) (k x : Nat) (hk : k < m) (hx : g k = x) (hg : ∀ j, j < m → j ≠ k → g j = f j) : Nums (W.setCell ⟨b, k, none⟩ (.int .u64 x)) b m g := by
  intro j hj
  obtain ⟨h1, h2⟩ := h j hj
  refine ⟨?_, by rw [World.frozen?_setCell]; exact h2⟩
  by_cases e : j = k
  · subst e
    rw [World.cell?_setCell_same' _ _ _ (by rw [h1]; rfl), hx]
  · rw [World.cell?_setCell_other (h := addr_ne_off (fun x => e x.symm)), hg j hj e]
    exact h1
theorem Nums.below {W W' : World} {b m : Nat} {f : Nat → Nat} (h : Nums W b m f) (hb : Below W.heap.size W W') (hl : b < W.heap.size) : Nums W' b m f := fun j hj =>
  ⟨(hb.cell (p := ⟨b, j, none⟩) hl).trans (h j hj).1, (hb.frozen (p := ⟨b, j, none⟩) hl).trans (h j hj).2⟩
theorem nums_made {w : World} {base b n cap : Nat} {zs : List Value} (h : w.ownsRow base 23 1 (.slice (some ⟨b, 0, none⟩) n cap) n zs) (hz : ∀ j, j < n → zs[j]? = some (.int .u64 0)) : Nums w b n (fun _ => 0) ∧ b < w.heap.size := by
  obtain ⟨hl, h⟩ := h
  rcases h with ⟨hv, _⟩ | ⟨g, c, cur, hv, hb, hg, hnc, hm, hsz, ht⟩
  · simp at hv
  · simp only [Value.slice.injEq, Option.some.injEq, Addr.mk.injEq] at hv
    obtain ⟨⟨rfl, _, _⟩, _, rfl⟩ := hv
    refine ⟨fun j hj => ?_, (Array.getElem?_eq_some_iff.1 hg).1⟩
    have e1 : w.cell? ⟨b, j, none⟩ = cur[j]? := by
      unfold World.cell?
      rw [hg]
      simp
    have e2 : (cur.toList.take (n * 1))[j]? = cur[j]? := by
      rw [List.getElem?_take_of_lt (by omega)]
      simp
    refine ⟨?_, ?_⟩
    · rw [e1, ← e2, ht, hz j hj]
      rfl
    · unfold World.frozen?
      rw [hg]
      simp
theorem made_zero64 (n j : Nat) (h : j < n) : (madeCells (Value.int IntKind.u64 0).cells (n * 1)).toList[j]? = some (.int .u64 0) := by
  unfold madeCells
  simp [Value.cells, h, Nat.mod_one]

set_option maxHeartbeats 1000000 in
theorem unp_bad (a : Option Addr) (cap : Nat) (zs : List Int) (s : ByteArray) (n : Nat) (hn : zs.length = n) (hl : n ≤ 500) (hs : s.size ≤ 5000) (hw : Fld.allW zs = false) (w : World) (R : Reads .i64 w a zs) :
    Calls Try.prog 21 #[.slice a n cap, .string s] w (Unpacked zs s.data.toList w) := by
  have A := Lib.hid (areWidths_any a cap zs (by omega) w R)
  rw [hw, hn] at A
  have Q := Lib.hid (unpacked_no (l := s.data.toList) (show Fld.unpE zs s.data.toList = 2 by unfold Fld.unpE; rw [hw]; rfl) (by omega) (Below.refl w.heap.size w))
  clear hw hn R
  go_enter Try.func21, Try.ntmps21
  go_wp2_with fail
  (with_reducible refine A.out.mono ?_)
  rintro e w' ⟨rfl, rfl⟩
  go_wp2_with fail
  go_ret2
  exact Q.out

set_option maxHeartbeats 1000000 in
theorem unp_len (a : Option Addr) (cap : Nat) (zs : List Int) (s : ByteArray) (n : Nat) (hn : zs.length = n) (hl : n ≤ 500) (hc : n ≤ cap) (hm : cap ≤ 9223372036854775807) (hs : s.size ≤ 5000) (hw : Fld.allW zs = true) (hne : s.size ≠ (Fld.tot (Fld.nats zs) + 7) / 8) (w : World) (R : Reads .i64 w a zs) :
    Calls Try.prog 21 #[.slice a n cap, .string s] w (Unpacked zs s.data.toList w) := by
  have ls : s.data.toList.length = s.size := by simp
  have A := Lib.hid (areWidths_any a cap zs (by omega) w R)
  rw [hw, hn] at A
  have uE : Fld.unpE zs s.data.toList = 6 := by unfold Fld.unpE; rw [if_pos hw, if_neg (by rw [ls]; intro h; exact hne h.1)]
  have nl : (Fld.nats zs).length = n := by rw [Fld.nats_length, hn]
  have nb : ∀ j, j < (Fld.nats zs).length → (Fld.nats zs).getD j 0 ≤ 64 := fun j hj => (Fld.nats_get hw j (by omega)).2.2
  have R2 : Reads .i64 w a ((Fld.nats zs).map Int.ofNat) := by rw [Fld.nats_map hw]; exact R
  have FI := Lib.hid (filled_any a cap (Fld.nats zs) (by omega) (by omega) hm nb w R2)
  rw [nl] at FI
  have tb := Fld.tot_le (Fld.nats zs) 64 nb (Fld.nats zs).length (Nat.le_refl _)
  rw [List.take_length] at tb
  have FL := Lib.hid (Fld.fill_le (Fld.nats zs) nb)
  have fll := Fld.fill_length (Fld.nats zs)
  have ft := Fld.fill_tot (Fld.nats zs)
  obtain ⟨fs, hfs⟩ : ∃ fs, Fld.fill (Fld.nats zs) = fs := ⟨_, rfl⟩
  have FLN := Lib.hid (show fs.length ≤ 501 by rw [← hfs]; omega)
  obtain ⟨t2, ht2⟩ : ∃ t, Fld.tot fs = t := ⟨_, rfl⟩
  rw [hfs, ht2] at ft
  have HF := Lib.hid hfs
  have HT := Lib.hid ht2
  obtain ⟨q1, q2⟩ := len_ne (show t2 ≠ 8 * s.size by omega)
  have q3 : ((t2 : Int) == 8 * (s.size : Int)) = false := by simp; omega
  have q4 : ((t2 : Int) != 8 * (s.size : Int)) = true := by simp; omega
  have t9 : t2 ≤ 50000 := by omega
  have UE := Lib.hid uE
  clear hw hn R R2 tb ft fll nb nl hne hfs ht2 ls uE
  go_enter Try.func21, Try.ntmps21
  go_wp2_with fail
  (with_reducible refine A.out.mono ?_)
  rintro e w' ⟨rfl, rfl⟩
  go_wp2_with fail
  (with_reducible refine FI.out.mono ?_)
  rintro e w1 ⟨a', cap', rfl, hfc, hfr, hfb⟩
  rw [HF.out] at hfr ⊢
  have T2 := Lib.hid (total_any a' cap' fs (by have := FLN.out; omega) (by rw [← HF.out]; exact FL.out) w1 hfr)
  rw [HT.out] at T2
  have HFB := Lib.hid hfb
  clear hfb hfr hfc
  go_wp2_with fail
  (with_reducible refine T2.out.mono ?_)
  rintro e w' ⟨rfl, rfl⟩
  go_wp2_with fail
  go_ret2
  exact unpacked_no UE.out (by omega) HFB.out
end Go.Proofs.Ytgfjmolihobaeaa
