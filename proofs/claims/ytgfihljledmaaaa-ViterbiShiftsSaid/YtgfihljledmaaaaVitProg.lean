/- The contract of viterbi's Soften over this program. -/
import Derived.Test.YtgfihljledmaaaaVitProgA
namespace Go.Proofs.Ytgfihljledmaaaa
open Go.RowKit
set_option linter.unusedVariables false

/-- What Soften returns: the list, or nothing. -/
def SoftA (l : List UInt8) (n : Nat) (w : World) (e : Ending) (w' : World) : Prop :=
  if listOk l = true then ∃ a cap, e = .returned (.tuple #[.slice a n cap, .int .i64 0]) ∧ (Ints w' a (zof (sft l) n) ∧ n ≤ cap) ∧ Below w.heap.size w w' else e = .returned (.tuple #[.slice none 0 0, .int .i64 6]) ∧ Below w.heap.size w w'
theorem own_ints {w : World} {base e n : Nat} {v : Value} {f : Nat → Int} (h : w.ownsRow base e 1 v n (zlist f n)) : ∃ a cap, v = .slice a n cap ∧ Ints w a (zof f n) ∧ n ≤ cap := by
  by_cases h0 : n = 0
  · subst h0
    rcases h.2 with ⟨rfl, _⟩ | ⟨g, cap, _, rfl, _⟩
    · exact ⟨none, 0, rfl, .inl rfl, Nat.zero_le _⟩
    · exact ⟨_, _, rfl, .inl rfl, Nat.zero_le _⟩
  · obtain ⟨g, cap, rfl⟩ := own_slice h h0
    refine ⟨_, _, rfl, (IntsW.of_own h).ints, ?_⟩
    rcases h.2 with ⟨hv, _⟩ | ⟨g', cap', _, hv, _, _, hc, _⟩
    · simp at hv
    · simp only [Value.slice.injEq] at hv
      omega
theorem softA_of {l : List UInt8} {n : Nat} {w w' : World} {e : Ending} (h : Softened l n w e w') : SoftA l n w e w' := by
  unfold Softened at h
  unfold SoftA
  by_cases q : listOk l = true
  · rw [if_pos q] at h ⊢
    obtain ⟨v, rfl, ho, hb⟩ := h
    obtain ⟨a, cap, rfl, hi, hc⟩ := own_ints ho
    exact ⟨a, cap, rfl, ⟨hi, hc⟩, hb⟩
  · rw [if_neg q] at h ⊢
    exact h
theorem softA_cases {l : List UInt8} {n : Nat} {w w' : World} {e : Ending} (h : SoftA l n w e w') : (listOk l = true ∧ ∃ a cap, e = .returned (.tuple #[.slice a n cap, .int .i64 0]) ∧ (Ints w' a (zof (sft l) n) ∧ n ≤ cap) ∧ Below w.heap.size w w') ∨ (listOk l = false ∧ e = .returned (.tuple #[.slice none 0 0, .int .i64 6]) ∧ Below w.heap.size w w') := by
  unfold SoftA at h
  by_cases q : listOk l = true
  · rw [if_pos q] at h
    exact .inl ⟨q, h⟩
  · rw [if_neg q] at h
    exact .inr ⟨by simpa using q, h⟩
theorem madeInts {w : World} {base b e n cap : Nat} (h : w.ownsRow base e 1 (.slice (some ⟨b, 0, none⟩) n cap) n (madeCells (Value.int .i64 0).cells (n * 1)).toList) : IntsW w b n (fun _ => 0) := by
  refine IntsW.of_own (base := base) (e := e) (cap := cap) ?_
  rw [show zlist (fun _ => 0) n = (madeCells (Value.int .i64 0).cells (n * 1)).toList from ?_]
  · exact h
  · apply List.ext_getElem?
    intro j
    by_cases hj : j < n
    · have : (madeCells (Value.int .i64 0).cells (n * 1)).toList[j]? = some (.int .i64 0) := by
        unfold madeCells
        simp [Value.cells, hj, Nat.mod_one]
      rw [this]
      simp [zlist, hj]
    · rw [List.getElem?_eq_none (by simp [zlist]; omega), List.getElem?_eq_none (by rw [Array.length_toList, size_madeCells]; omega)]
set_option maxRecDepth 100000 in
set_option maxHeartbeats 1000000 in
theorem soften_any (s : ByteArray) (n : Nat) (hn : s.size = n) (hl : n ≤ 100000) (w : World) :
    Calls Try.prog 16 #[.string s] w (SoftA s.data.toList n w) := by
  have YES := Lib.hid (fun (h : ∀ i, i < n → (Gal.co s.data.toList i).toNat < 2) (w' : World) (a : Option Addr) (cap : Nat) (hi : Ints w' a (zof (sft s.data.toList) n)) (hc : n ≤ cap) (hb : Below w.heap.size w w') => show SoftA s.data.toList n w (.returned (.tuple #[.slice a n cap, .int .i64 0])) w' by
    unfold SoftA
    rw [if_pos ((listOk_iff _).2 (fun i hi' => h i (by rw [ls, hn] at hi'; exact hi')))]
    exact ⟨a, cap, rfl, ⟨hi, hc⟩, hb⟩)
  have NO := Lib.hid (fun i (hi : i < n) (h : ¬ (Gal.co s.data.toList i).toNat < 2) (w' : World) (hb : Below w.heap.size w w') => show SoftA s.data.toList n w (.returned (.tuple #[.slice none 0 0, .int .i64 6])) w' by
    unfold SoftA
    rw [if_neg (by rw [listOk_no (by rw [ls, hn]; exact hi) h]; simp)]
    exact ⟨rfl, hb⟩)
  have BY := Lib.hid (fun i h => byte_co s i h)
  have HN := Lib.hid hn
  have SS := Lib.hid (show ∀ k, sft s.data.toList k = 14 * ((Gal.co s.data.toList k).toNat : Int) - 7 from fun k => rfl)
  obtain ⟨i0, hi, hz0, hz1, hz2⟩ := info_parts info_i64
  go_enter Try.func16, Try.ntmps16
  go_wp2_with (at_make; refine wpList_make_full _ rfl _ _ 22 rfl w.heap.size 3 i0 (.int .i64 0) 1 Try.underlying22 hi hz0 hz1 .i64 .i64 _ _ n rfl rfl (by first | rfl | omega) (by first | rfl | omega) (by rw [hz2]; omega) (by unfold maxLen; omega) (Nat.le_refl _) ?_; intro w2 hown hgrow)
  have N0 := Lib.hid ((madeInts hown).congr (g := fun j => if j < 0 then sft s.data.toList j else 0) (fun j _ => by rw [if_neg (Nat.not_lt_zero j)]))
  have B0 := Lib.hid ((Below.refl w.heap.size w).grown hgrow (Nat.le_refl _) (fun k e => by cases e))
  clear hown hgrow hi hz0 hz1 hz2 hn
  go_loopw [11] (fun x wr => ∃ k : Nat, k ≤ n ∧ x = .int .i64 (k : Nat) ∧ (∀ j, j < k → (Gal.co s.data.toList j).toNat < 2) ∧ IntsW wr w.heap.size n (fun j => if j < k then sft s.data.toList j else 0) ∧ Below w.heap.size w wr) (fun x _ => n - (intOf x).toNat)
  case atStart => exact ⟨0, Nat.zero_le _, rfl, fun j h => absurd h (Nat.not_lt_zero j), N0.out, B0.out⟩
  case round =>
    obtain ⟨k, hk, rfl, ha, hI, hB⟩ := hrel
    have HA := Lib.hid ha
    have HI := Lib.hid hI
    have HB := Lib.hid hB
    clear N0 B0 ha hI hB
    by_cases hlt : k < n
    · have t1 : decide ((k : Int) < (n : Int)) = true := by simp; omega
      have is : k < s.size := by rw [HN.out]; exact hlt
      have bi := BY.out k is
      have sk := SS.out k
      have cl := HI.out.cell hlt
      have fr := HI.out.frozen hlt
      obtain ⟨x, hx⟩ : ∃ x, (Gal.co s.data.toList k).toNat = x := ⟨_, rfl⟩
      have HX := Lib.hid hx
      rw [hx] at bi sk
      have SK := Lib.hid sk
      rw [if_neg (Nat.lt_irrefl k)] at cl
      have k9 : (k : Int) < (n : Int) := by omega
      have NXT := Lib.hid (fun (z : Int) (hz : sft s.data.toList k = z) => (HI.out.set k z).congr (g := fun j => if j < k + 1 then sft s.data.toList j else 0) (fun j _ => by
        show (if j = k then z else if j < k then sft s.data.toList j else 0) = if j < k + 1 then sft s.data.toList j else 0
        by_cases e : j = k
        · subst e
          rw [if_pos rfl, if_pos (Nat.lt_succ_self j), hz]
        · rw [if_neg e]
          by_cases g : j < k
          · rw [if_pos g, if_pos (by omega)]
          · rw [if_neg g, if_neg (by omega)]))
      have BX := Lib.hid (fun z => HB.out.setCell (p := ⟨w.heap.size, k, none⟩) (Nat.le_refl _) (.int .i64 z))
      have HA2 := Lib.hid (show x < 2 → ∀ j, j < k + 1 → (Gal.co s.data.toList j).toNat < 2 from fun q j hj => by
        by_cases e : j = k
        · subst e
          rw [HX.out]
          exact q
        · exact HA.out j (by omega))
      clear hx sk HA HI
      by_cases q0 : x = 0
      · subst q0
        have u0 : (((0 : Nat) : Int) == 0) = true := rfl
        have NN := Lib.hid (NXT.out (-7) (by rw [SK.out]; rfl))
        have BB := Lib.hid (BX.out (-7))
        have AA := Lib.hid (HA2.out (by omega))
        clear NXT BX HA2 HB BY SS YES NO SK HX
        go_wp2_with fail
        go_roundw
        case rel => exact ⟨k + 1, by omega, by go_num, AA.out, NN.out, BB.out⟩
        case measure => simp [intOf]; omega
      · by_cases q1 : x = 1
        · subst q1
          have u0 : (((1 : Nat) : Int) == 0) = false := rfl
          have u1 : (((1 : Nat) : Int) == 1) = true := rfl
          have NN := Lib.hid (NXT.out 7 (by rw [SK.out]; rfl))
          have BB := Lib.hid (BX.out 7)
          have AA := Lib.hid (HA2.out (by omega))
          clear NXT BX HA2 HB BY SS YES NO SK HX
          go_wp2_with fail
          go_roundw
          case rel => exact ⟨k + 1, by omega, by go_num, AA.out, NN.out, BB.out⟩
          case measure => simp [intOf]; omega
        · have u0 : ((x : Int) == 0) = false := by simp; omega
          have u1 : ((x : Int) == 1) = false := by simp; omega
          have Q := Lib.hid (NO.out k hlt (by rw [HX.out]; omega) _ HB.out)
          clear NXT BX HA2 HB BY SS YES NO SK HX
          go_wp2_with fail
          go_ret2
          exact Q.out
    · obtain rfl : n = k := by omega
      have t1 : decide ((n : Int) < (n : Int)) = false := by simp
      have Q := Lib.hid (YES.out HA.out wr (some ⟨w.heap.size, 0, none⟩) n ((HI.out.congr (g := sft s.data.toList) (fun j hj => by rw [if_pos hj])).ints) (Nat.le_refl _) HB.out)
      clear HI HB BY SS YES NO HA
      go_wp2_with fail
      go_ret2
      exact Q.out
end Go.Proofs.Ytgfihljledmaaaa
