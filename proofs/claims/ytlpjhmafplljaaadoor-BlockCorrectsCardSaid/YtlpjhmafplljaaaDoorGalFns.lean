/- The contracts of galois' Sum, Derived, Eval over this program. -/
import Derived.Test.YtlpjhmafplljaaaDoorGalAdd
import Derived.Lib.LazyBuf
namespace Go.Proofs.YtlpjhmafplljaaaDoor
open Go.RowKit
set_option linter.unusedVariables false

theorem info_u8 : (Tryd.prog.info? 5).map (fun i => (i.zero, i.size, i.bytes)) = some (some (.int .u8 0), 1, 1) := by kernel_rfl
theorem size_u8 (w : World) : (Go.sizeOf 5).run Tryd.prog w = .ok 1 w := by kernel_rfl
theorem nums_cells {b N : Nat} : ∀ (l : List UInt8) (o : Nat) (w : World) (f : Nat → BitVec 8), NumsK .u8 w b N (fun j => (f j).toNat) → o + l.length ≤ N →
    NumsK .u8 (w.setCells b o (l.map fun x => Value.int .u8 (x.toNat : Int))) b N (fun j => (if o ≤ j ∧ j < o + l.length then Gal.co l (j - o) else f j).toNat)
  | [], o, w, f, h, _ => h.congr (fun j _ => by rw [if_neg (by simp)])
  | x :: l, o, w, f, h, hN => by
    have hl : (x :: l).length = l.length + 1 := rfl
    have h1 := h.set (g := fun j => ((fun j => if j = o then x.toBitVec else f j) j).toNat) o x.toNat (by omega) (by simp) (fun j _ hj => by simp [hj])
    have := nums_cells l (o + 1) _ _ h1 (by omega)
    refine NumsK.congr this (fun j hj => ?_)
    congr 1
    by_cases e1 : o + 1 ≤ j ∧ j < o + 1 + l.length
    · rw [if_pos e1, if_pos (by omega), show j - o = (j - (o + 1)) + 1 by omega]
      rfl
    · rw [if_neg e1]
      by_cases e2 : j = o
      · subst e2
        rw [if_pos rfl, if_pos (by omega), Nat.sub_self]
        rfl
      · rw [if_neg e2, if_neg (by omega)]
set_option maxRecDepth 100000 in
theorem eval_any (p : ByteArray) (x : BitVec 8) (hp : p.size ≤ 1000000) (w : World) :
    Calls Tryd.prog 64 #[.string p, .int .u8 (x.toNat : Nat)] w fun e w' => e = .returned (.int .u8 ((Gal.evalV p.data.toList x).toNat : Nat)) ∧ Below w.heap.size w w' := by
  obtain ⟨n, hn⟩ : ∃ n, p.size = n := ⟨_, rfl⟩
  have ev : Gal.evalV p.data.toList x = Gal.horner (Gal.co p.data.toList) x 0 n := by
    unfold Gal.evalV
    rw [ls, hn, Gal.horner_all]
  rw [ev]
  rw [hn] at hp
  have FL := Lib.hid (fun w => filled_any w)
  have HN := Lib.hid hn
  clear ev
  go_enter Tryd.func64, Tryd.ntmps64
  go_wp2_with fail
  (with_reducible refine (FL.out _).mono ?_)
  rintro e w1 ⟨rfl, hB⟩
  have HB := Lib.hid hB
  clear hB
  go_wp2_with (refine wpList_store_row rfl 68 (.tmp 5) (.tmp 9) rfl w1.heap.size tabs rfl rfl _ _ (new_tabs w1) iTabs tabs_size (arrK_one _ _ _) ?_)
  have TT := withTab_tabs w1
  have BB := bt HB.out (withTab_below w1)
  obtain ⟨w2, hw2⟩ : ∃ w2, ((w1.alloc (.cells Tryd.zeroCells68 68)).setRow w1.heap.size tabs) = w2 := ⟨_, rfl⟩
  rw [hw2] at TT BB ⊢
  have T2 := Lib.hid TT
  have B2 := Lib.hid BB
  obtain ⟨tb, htb⟩ : ∃ tb, w1.heap.size = tb := ⟨_, rfl⟩
  rw [htb] at T2 ⊢
  clear TT BB hw2 htb HB FL hn
  go_loopw [7, 15] (fun v i wr => ∃ k : Nat, k ≤ n ∧ i = .int .i64 k ∧ v = .int .u8 ((Gal.horner (Gal.co p.data.toList) x (n - k) k).toNat : Nat) ∧ Tabs wr tb Gal.tab ∧ Below w.heap.size w wr) (fun _ i _ => n - (intOf i).toNat)
  case atStart => exact ⟨0, Nat.zero_le _, rfl, rfl, T2.out, B2.out⟩
  case round =>
    obtain ⟨k, hk, rfl, rfl, hT, hB⟩ := hrel
    by_cases hlt : k < n
    · have HT := Lib.hid hT
      have HB := Lib.hid hB
      obtain ⟨j, hj⟩ : ∃ j, n - 1 - k = j := ⟨_, rfl⟩
      have S := Lib.hid (show Gal.horner (Gal.co p.data.toList) x (n - (k + 1)) (k + 1) = Gal.mul x (Gal.horner (Gal.co p.data.toList) x (n - k) k) ^^^ Gal.co p.data.toList j by
        rw [show n - (k + 1) = j by omega, show n - k = j + 1 by omega]
        rfl)
      obtain ⟨v, hv⟩ : ∃ v, Gal.horner (Gal.co p.data.toList) x (n - k) k = v := ⟨_, rfl⟩
      rw [hv] at S ⊢
      clear hT hB hv T2 B2
      go_upto_region 7 with fail
      refine evalRegion tb k j n x v p HN.out hp hlt (by rw [HN.out]; omega) (by omega) (by rw [IntKind.wrap_i64]; omega) (by rw [IntKind.wrap_i64]; omega) HT.out (by kernel_rfl) rfl rfl rfl rfl rfl rfl rfl rfl rfl rfl rfl rfl rfl rfl rfl rfl rfl rfl ?_
      intro w3 B3
      simp only [Act.put, List.setIfInBounds_toArray, List.set_cons_succ, List.set_cons_zero]
      have HT3 := Lib.hid (HT.out.below B3)
      have HB3 := Lib.hid (bt HB.out B3)
      rw [← S.out]
      clear B3 HT HB
      obtain ⟨y1, hy1⟩ : ∃ y, (Gal.horner (Gal.co p.data.toList) x (n - (k + 1)) (k + 1)).toNat = y := ⟨_, rfl⟩
      rw [hy1]
      have HY := Lib.hid hy1
      clear hy1
      go_wp2_with fail
      go_roundw
      case rel => exact ⟨k + 1, by omega, by go_num, by rw [HY.out], HT3.out, HB3.out⟩
      case measure => simp [intOf]; omega
    · obtain rfl : k = n := by omega
      have HB := Lib.hid hB
      rw [Nat.sub_self]
      clear hT hB T2 B2
      go_wp2_with fail
      go_ret
      exact ⟨rfl, HB.out⟩
end Go.Proofs.YtlpjhmafplljaaaDoor
