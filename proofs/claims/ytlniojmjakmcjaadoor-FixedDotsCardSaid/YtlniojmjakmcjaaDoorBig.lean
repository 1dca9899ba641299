/- The contracts of perigeeref01's numbers of 17 digits over this program. -/
import Derived.Test.YtlniojmjakmcjaaDoorAwake
import Derived.Test.YtlniojmjakmcjaaDoorBigMath
import Derived.Deep.OwnRows
import Derived.Laws.CopyOwn
import Derived.Deep.WholeRow
namespace Go.Proofs.YtlniojmjakmcjaaDoor
open Go.RowKit
set_option linter.unusedVariables false

/-- 17 digits. -/
def arr (f : Nat → Nat) : Array Value := Array.ofFn (n := 17) (fun j => .int .u64 (f j : Nat))
theorem arr_size (f : Nat → Nat) : (arr f).size = 17 := by simp [arr]
theorem arr_get (f : Nat → Nat) (i : Nat) (h : i < 17) : (arr f)[i]? = some (.int .u64 (f i : Nat)) := by simp [arr, h]
theorem arr_one (f : Nat → Nat) : (arr f).all (·.oneCell') = true := by
  rw [Array.all_eq_true]
  intro i hi
  simp [arr, Value.oneCell']
theorem arr_zero : arr (fun _ => 0) = #[.int .u64 0, .int .u64 0, .int .u64 0, .int .u64 0, .int .u64 0, .int .u64 0, .int .u64 0, .int .u64 0, .int .u64 0, .int .u64 0, .int .u64 0, .int .u64 0, .int .u64 0, .int .u64 0, .int .u64 0, .int .u64 0, .int .u64 0] := rfl
theorem arr_congr {f g : Nat → Nat} (h : ∀ i, i < 17 → f i = g i) : arr f = arr g := by
  unfold arr
  congr 1
  funext j
  rw [h j j.isLt]
theorem uBig : Tryd.prog.underlying 47 = some (.array 17 39) := by kernel_rfl
theorem iBig (f : Nat → Nat) : (Tryd.prog.info? 47).map (·.size) = some (arr f).size := by rw [arr_size]; kernel_rfl

/-- A block of 17 digits. -/
def Row (w : World) (b : Nat) (f : Nat → Nat) : Prop := w.heap[b]? = some (.cells (arr f) 47 (0, 0))
namespace Row
variable {w : World} {b : Nat} {f g : Nat → Nat}
theorem is (h : Row w b f) : w.rowIs b 47 17 (fun j => .int .u64 (f j : Nat)) := ⟨_, h, arr_size f, fun i hi => arr_get f i hi⟩
theorem of_is (h : w.rowIs b 47 17 (fun j => .int .u64 (f j : Nat))) : Row w b f := by
  obtain ⟨c, h1, h2, h3⟩ := h
  have e : c = arr f := by
    apply Array.ext_getElem?
    intro i
    by_cases hi : i < 17
    · rw [h3 i hi, arr_get f i hi]
    · rw [Array.getElem?_eq_none (by omega), Array.getElem?_eq_none (by rw [arr_size]; omega)]
  subst e
  exact h1
theorem cell (h : Row w b f) {i : Nat} (hi : i < 17) : w.cell? ⟨b, i, none⟩ = some (.int .u64 (f i : Nat)) := h.is.cell hi
theorem frozen (h : Row w b f) (i : Nat) : w.frozen? ⟨b, i, none⟩ = false := h.is.frozen i
theorem lt (h : Row w b f) : b < w.heap.size := h.is.lt
theorem congr (h : Row w b f) (e : ∀ i, i < 17 → f i = g i) : Row w b g := by unfold Row; rw [← arr_congr e]; exact h
theorem set (h : Row w b f) (i n : Nat) : Row (w.setCell ⟨b, i, none⟩ (.int .u64 (n : Nat))) b (fun j => if j = i then n else f j) :=
  of_is ((h.is.set i (.int .u64 (n : Nat))).congr (fun j hj => by split <;> rfl))
theorem setOther (h : Row w b f) {c i : Nat} (hb : b ≠ c) (v : Value) : Row (w.setCell ⟨c, i, none⟩ v) b f := of_is (h.is.setOther hb v)
theorem alloc (h : Row w b f) (o : Obj) : Row (w.alloc o) b f := of_is (h.is.alloc o)
theorem below {w' : World} (h : Row w b f) (hb : Below w.heap.size w w') : Row w' b f := by unfold Row; rw [hb.block b h.lt]; exact h
end Row
theorem row_new (w : World) (f : Nat → Nat) : Row (w.alloc (.cells (arr f) 47)) w.heap.size f := heap_alloc_last w _

/-- A number as the program's Big. -/
def Big (x : Nat) : Value := .agg (arr (BigM.dg x))

structure AddAt (B : Nat) (x y k : Nat) (w w' : World) : Prop where
  below : Below B w w'
  r1 : Row w' B (fun j => if j < k then BigM.dg (x + y) j else BigM.dg x j)
  r2 : Row w' (B + 1) (BigM.dg y)
  r3 : Row w' (B + 1 + 1) (fun _ => 0)

theorem add_store {B x y k : Nat} {w w' : World} (S : AddAt B x y k w w') (hk : k < 17) (n : Nat) : AddAt B x y (k + 1) w ((w'.drewN n).setCell ⟨B, k, none⟩ (.int .u64 (BigM.dg (x + y) k : Nat))) := by
  obtain ⟨b, r1, r2, r3⟩ := S
  refine ⟨?_, ?_, ?_, ?_⟩
  · exact Below.setCell (p := ⟨B, k, none⟩) (below_drewN b n) (Nat.le_refl B) _
  · have r1' : Row (w'.drewN n) B (fun j => if j < k then BigM.dg (x + y) j else BigM.dg x j) := r1
    refine (r1'.set k (BigM.dg (x + y) k)).congr (fun j hj => ?_)
    by_cases h : j = k
    · subst h; simp
    · by_cases g : j < k
      · rw [if_neg h, if_pos g, if_pos (by omega)]
      · rw [if_neg h, if_neg g, if_neg (by omega)]
  · exact Row.setOther (w := w'.drewN n) r2 (by omega) _
  · exact Row.setOther (w := w'.drewN n) r3 (by omega) _

set_option maxHeartbeats 4000000 in
theorem bigAdd_any (x y : Nat) (w : World) :
    Calls Tryd.prog 37 #[Big x, Big y] w fun e w' => e = .returned (Big (x + y)) ∧ Below w.heap.size w w' := by
  unfold Big
  go_enter Tryd.func37, Tryd.ntmps37
  go_wp2_with fail
  go_loopw [5, 6] (fun c i wr => ∃ k : Nat, i = .int .i64 k ∧ c = .int .u64 (BigM.cy x y k : Nat) ∧ k ≤ 17 ∧ AddAt w.heap.size x y k w wr) (fun _ i _ => 17 - (intOf i).toNat)
  case atStart =>
    refine ⟨0, rfl, by rw [BigM.cy_zero]; rfl, by omega, ⟨by go_grown, ?_, ?_, ?_⟩⟩
    · exact (((row_new w (BigM.dg x)).alloc _).alloc _).congr (fun j hj => by simp)
    · have := (row_new (w.alloc (.cells (arr (BigM.dg x)) 47)) (BigM.dg y)).alloc (.cells (arr (fun _ => 0)) 47)
      rw [World.size_alloc] at this
      exact this
    · have := row_new ((w.alloc (.cells (arr (BigM.dg x)) 47)).alloc (.cells (arr (BigM.dg y)) 47)) (fun _ => 0)
      rw [World.size_alloc, World.size_alloc] at this
      exact this
  case round =>
    obtain ⟨k, rfl, rfl, hk, S⟩ := hrel
    by_cases hlt : k < 17
    · have c1 := S.r1.cell hlt
      have c2 := S.r2.cell hlt
      have f1 := S.r1.frozen k
      simp only [Nat.lt_irrefl, if_false] at c1
      have cs := BigM.cy_succ x y k
      have da := BigM.dg_add x y k
      have cle := BigM.cy_le x y k
      have dx := BigM.dg_lt x k
      have dy := BigM.dg_lt y k
      have ds := BigM.dg_lt (x + y) k
      obtain ⟨ck, hck⟩ : ∃ q, BigM.cy x y k = q := ⟨_, rfl⟩
      obtain ⟨ck1, hck1⟩ : ∃ q, BigM.cy x y (k + 1) = q := ⟨_, rfl⟩
      obtain ⟨d1, hd1⟩ : ∃ q, BigM.dg x k = q := ⟨_, rfl⟩
      obtain ⟨d2, hd2⟩ : ∃ q, BigM.dg y k = q := ⟨_, rfl⟩
      obtain ⟨d3, hd3⟩ : ∃ q, BigM.dg (x + y) k = q := ⟨_, rfl⟩
      rw [hck] at cs da cle ⊢
      rw [hck1] at cs
      rw [hd1] at c1 cs da dx
      rw [hd2] at c2 cs da dy
      rw [hd3] at da ds
      have e1 : ((ck : Int) + (d1 : Int) + (d2 : Int)) % 65536 = (d3 : Int) := by omega
      have e2 : ((ck : Int) + (d1 : Int) + (d2 : Int)) / 65536 = (ck1 : Int) := by omega
      have SS := Lib.hid S
      have H1 := Lib.hid hck1
      have E2 := Lib.hid e2
      have H3 := Lib.hid hd3
      have k0 : (0 : Int) ≤ (k : Int) := by omega
      have k1 : (k : Int) < 17 := by omega
      clear S cs da hck hck1 hd1 hd2 hd3
      go_upto_region 5 with fail
      go_quiet (fail)
      go_wp2_with fail
      go_roundw
      case rel => exact ⟨k + 1, by simp, by rw [H1.out, ← E2.out], by omega, by rw [← H3.out]; exact add_store SS.out hlt _⟩
      case measure => simp [intOf]; omega
    · obtain rfl : k = 17 := by omega
      have r1 : Row wr w.heap.size (BigM.dg (x + y)) := S.r1.congr (fun j hj => by simp [hj])
      have r3 := S.r3
      have B := S.below
      have HB := Lib.hid B
      have H1 := Lib.hid r1
      have H3 := Lib.hid r3
      clear S r1 r3 B
      go_wp2_with (first
        | (refine wpList_load_row rfl 47 (.tmp 2) rfl w.heap.size rfl _ _ _ _ H1.out uBig rfl (iBig _) ?_)
        | (refine wpList_store_row rfl 47 (.tmp 4) (.tmp 26) rfl (w.heap.size + 1 + 1) (arr (BigM.dg (x + y))) rfl rfl _ _ H3.out (iBig _) (by rw [arr_size, arr_size]) (arr_one _) ?_))
      exact bodyPost_ret (v := .agg (arr (BigM.dg (x + y)))) (results_cell_row Tryd.results37 _ _ (w.heap.size + 1 + 1) 47 (arr (BigM.dg (x + y))) (0, 0) _ rfl (setRow_heap _ _ _ _ _ _ H3.out) uBig rfl (iBig _)) rfl ⟨rfl, below_setRow HB.out (by omega) _⟩
end Go.Proofs.YtlniojmjakmcjaaDoor
