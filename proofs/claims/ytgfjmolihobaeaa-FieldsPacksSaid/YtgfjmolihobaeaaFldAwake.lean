/- perigeelaw02.awake over this program returns true: some results are as the document says. -/
import Derived.Test.YtgfjmolihobaeaaFldPack2
import Derived.Test.YtgfjmolihobaeaaFldDist
namespace Go.Proofs.Ytgfjmolihobaeaa
open Go.RowKit Go.Shelf
set_option linter.unusedVariables false

theorem wgetK (w : World) : Calls Try.prog 10 #[.string { data := #[165, 195] }, .int .i64 4, .int .i64 8] w fun e w' => e = .returned (.tuple #[.int .u64 92, .int .i64 0]) ∧ Below w.heap.size w w' := by
  have h := get_any { data := #[165, 195] } 4 8 (by decide) w
  rw [show Fld.getV (ByteArray.mk #[165, 195]).data.toList 4 8 = 92 by decide +kernel, show Fld.chk (ByteArray.mk #[165, 195]).size 4 8 = 0 by decide +kernel] at h
  exact h
theorem wsignedK (w : World) : Calls Try.prog 12 #[.string { data := #[165, 195] }, .int .i64 0, .int .i64 4] w fun e w' => e = .returned (.tuple #[.int .i64 (-6), .int .i64 0]) ∧ Below w.heap.size w w' := by
  have h := signed_any { data := #[165, 195] } 0 4 (by decide) w
  rw [show Fld.getS (ByteArray.mk #[165, 195]).data.toList 0 4 = -6 by decide +kernel, show Fld.chk (ByteArray.mk #[165, 195]).size 0 4 = 0 by decide +kernel] at h
  exact h
theorem wputK (w : World) : Calls Try.prog 14 #[.string { data := #[0, 0] }, .int .i64 6, .int .i64 4, .int .u64 11] w fun e w' => e = .returned (.tuple #[.string { data := #[2, 192] }, .int .i64 0]) ∧ Below w.heap.size w w' := by
  have h := put_any { data := #[0, 0] } 6 4 11 (by decide) (by omega) w
  rw [show Fld.putV (ByteArray.mk #[0, 0]).data.toList 6 4 11 = [2, 192] by decide +kernel, show Fld.chkP (ByteArray.mk #[0, 0]).size 6 4 11 = 0 by decide +kernel] at h
  exact h
theorem wputSK (w : World) : Calls Try.prog 16 #[.string { data := #[255] }, .int .i64 0, .int .i64 4, .int .i64 (-8)] w fun e w' => e = .returned (.tuple #[.string { data := #[143] }, .int .i64 0]) ∧ Below w.heap.size w w' := by
  have h := putSigned_any { data := #[255] } 0 4 (-8) (by decide) w
  rw [show Fld.putVS (ByteArray.mk #[255]).data.toList 0 4 (-8) = [143] by decide +kernel, show Fld.chkPS (ByteArray.mk #[255]).size 0 4 (-8) = 0 by decide +kernel] at h
  exact h
theorem wpackK (b1 b2 : Nat) (w : World) (l1 : b1 < w.heap.size) (l2 : b2 < w.heap.size) (c0 : w.cell? ⟨b1, 0, none⟩ = some (.int .i64 3)) (c1 : w.cell? ⟨b1, 1, none⟩ = some (.int .i64 2)) (c2 : w.cell? ⟨b1, 2, none⟩ = some (.int .i64 7))
    (d0 : w.cell? ⟨b2, 0, none⟩ = some (.int .u64 5)) (d1 : w.cell? ⟨b2, 1, none⟩ = some (.int .u64 1)) (d2 : w.cell? ⟨b2, 2, none⟩ = some (.int .u64 100)) :
    Calls Try.prog 19 #[.slice (some ⟨b1, 0, none⟩) 3 3, .slice (some ⟨b2, 0, none⟩) 3 3] w fun e w' => e = .returned (.tuple #[.string { data := #[174, 64] }, .int .i64 0]) ∧ Below w.heap.size w w' := by
  have h := pack_any (some ⟨b1, 0, none⟩) (some ⟨b2, 0, none⟩) 3 3 [3, 2, 7] [5, 1, 100] (by decide) (by decide) (by decide) (by decide) (fun j hj => by
      match j, hj with
      | 0, _ => decide
      | 1, _ => decide
      | 2, _ => decide) w
    (.inr ⟨b1, 0, rfl, l1, fun j hj => by
      match j, hj with
      | 0, _ => exact c0
      | 1, _ => exact c1
      | 2, _ => exact c2⟩)
    (.inr ⟨b2, 0, rfl, l2, fun j hj => by
      match j, hj with
      | 0, _ => exact d0
      | 1, _ => exact d1
      | 2, _ => exact d2⟩)
  rw [show Fld.packV [3, 2, 7] [5, 1, 100] = [174, 64] by decide +kernel, show Fld.packE [3, 2, 7] [5, 1, 100] = 0 by decide +kernel] at h
  exact h
theorem wdistK (w : World) : Calls Try.prog 27 #[.string { data := #[255, 0] }, .string { data := #[15, 1] }] w fun e w' => e = .returned (.tuple #[.int .i64 5, .int .i64 0]) ∧ Below w.heap.size w w' := by
  have h := dist_any { data := #[255, 0] } { data := #[15, 1] } (by decide) (by decide) w
  rw [show Fld.distV (ByteArray.mk #[255, 0]).data.toList (ByteArray.mk #[15, 1]).data.toList = 5 by decide +kernel, show Fld.chkD (ByteArray.mk #[255, 0]).size (ByteArray.mk #[15, 1]).size = 0 by decide +kernel] at h
  exact h

theorem bt {w a b : World} (h : Below w.heap.size w a) (k : Below a.heap.size a b) : Below w.heap.size w b := h.trans (k.mono h.size)
theorem ba {w a : World} (h : Below w.heap.size w a) (o : Obj) : Below w.heap.size w (a.alloc o) := h.alloc h.size o
theorem cellAt (w : World) (c : Array Value) (t : TypeId) (k : Nat) (v : Value) (h : c[k]? = some v) : (w.alloc (.cells c t)).cell? ⟨w.heap.size, k, none⟩ = some v := by
  have := World.cell?_alloc_new w c t k
  simp_all

theorem cellAt2 (w : World) (n : Nat) (hn : n = w.heap.size) (c : Array Value) (t : TypeId) (k : Nat) (v : Value) (h : c[k]? = some v) : (w.alloc (.cells c t)).cell? ⟨n, k, none⟩ = some v := by
  rw [hn]
  exact cellAt w c t k v h

set_option maxHeartbeats 1000000 in
/-- perigeelaw02.awake -/
theorem awake_any (w : World) : Calls Try.prog 9 #[] w fun e w' => e = .returned (.bool true) ∧ Below w.heap.size w w' := by
  have P := Lib.hid (fun b1 b2 w l1 l2 c0 c1 c2 d0 d1 d2 => wpackK b1 b2 w l1 l2 c0 c1 c2 d0 d1 d2)
  go_enter Try.func9, Try.ntmps9
  go_wp2_with fail
  (with_reducible refine (wgetK _).mono ?_)
  rintro e w1 ⟨rfl, h1⟩
  have H1 := Lib.hid h1
  clear h1
  go_wp2_with fail
  (with_reducible refine (wsignedK _).mono ?_)
  rintro e w2 ⟨rfl, h2⟩
  have H2 := Lib.hid (bt H1.out h2)
  clear h2 H1
  go_wp2_with fail
  (with_reducible refine (wputK _).mono ?_)
  rintro e w3 ⟨rfl, h3⟩
  have H3 := Lib.hid (bt H2.out h3)
  clear h3 H2
  go_wp2_with fail
  (with_reducible refine (wputSK _).mono ?_)
  rintro e w4 ⟨rfl, h4⟩
  have H4 := Lib.hid (bt H3.out h4)
  clear h4 H3
  go_wp2_with fail
  refine (P.out w4.heap.size (w4.heap.size + 1) _ (by simp; omega) (by simp) ?_ ?_ ?_ ?_ ?_ ?_).mono ?_
  · exact (World.cell?_alloc_lt (h := by simp) ..).trans (cellAt _ _ _ _ _ rfl)
  · exact (World.cell?_alloc_lt (h := by simp) ..).trans (cellAt _ _ _ _ _ rfl)
  · exact (World.cell?_alloc_lt (h := by simp) ..).trans (cellAt _ _ _ _ _ rfl)
  · exact cellAt2 _ _ (by simp) _ _ _ _ rfl
  · exact cellAt2 _ _ (by simp) _ _ _ _ rfl
  · exact cellAt2 _ _ (by simp) _ _ _ _ rfl
  rintro e w5 ⟨rfl, h5⟩
  have H5 := Lib.hid (bt (ba (ba H4.out _) _) h5)
  clear h5 H4
  go_wp2_with fail
  (with_reducible refine (wdistK _).mono ?_)
  rintro e w6 ⟨rfl, h6⟩
  have H6 := Lib.hid (bt H5.out h6)
  clear h6 H5
  go_wp2_with fail
  go_ret
  exact ⟨rfl, H6.out⟩
end Go.Proofs.Ytgfjmolihobaeaa
