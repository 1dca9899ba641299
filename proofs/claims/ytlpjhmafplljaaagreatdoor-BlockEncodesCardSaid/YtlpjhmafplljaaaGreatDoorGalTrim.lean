/- The contracts of strings.TrimRight of bytes 0, galois' trimmed and Degree, perigeeref04's Degree and Trim over this program. -/
import Derived.Test.YtlpjhmafplljaaaGreatDoorGalRefEl
namespace Go.Proofs.YtlpjhmafplljaaaGreatDoor
open Go.RowKit
set_option linter.unusedVariables false

theorem cut_size (s : ByteArray) (k : Nat) (h : k ≤ s.size) : (s.extract 0 k).size = k := by
  rw [ByteArray.size_extract]; omega
theorem cut_eq (s : ByteArray) (k : Nat) : s.extract 0 k = ⟨(s.data.toList.take k).toArray⟩ := by
  rw [← take_bytes, bytes_self]
theorem cut_cut (s : ByteArray) (k m : Nat) (h : m ≤ k) : (s.extract 0 k).extract 0 m = s.extract 0 m := by
  rw [cut_eq, cut_eq, cut_eq]
  congr 2
  rw [List.take_take, Nat.min_eq_left h]
theorem cut_all (s : ByteArray) : s.extract 0 s.size = s := by
  rw [cut_eq, List.take_of_length_le (by simp), bytes_self]
theorem cut_get (s : ByteArray) (k m : Nat) (t : ByteArray) (e : s.extract 0 k = t) (hm : m < k) (hh : m < t.size) : (t[m]'hh).toNat = (Gal.co s.data.toList m).toNat := by
  subst e
  rw [byte_co _ _ hh, take_bytes, Gal.co_take, if_pos hm]
def strLen : Value → Nat
  | .string s => s.size
  | _ => 0
theorem empty_no {s : ByteArray} (h : 0 < s.size) : s.toList.isEmpty = false := by
  have ne : s ≠ ⟨#[]⟩ := by
    rintro rfl
    have : (⟨#[]⟩ : ByteArray).size = 0 := rfl
    omega
  have e1 := beq_no ne
  have e2 : (s.toList == (⟨#[]⟩ : ByteArray).toList) = false := by rw [← beq_toListBytes, e1]
  rw [show (⟨#[]⟩ : ByteArray).toList = [] from by decide +kernel] at e2
  cases h : s.toList with
  | nil => rw [h] at e2; simp at e2
  | cons a b => rfl
theorem beq_empty {s : ByteArray} (h : 0 < s.size) : (s == (⟨#[]⟩ : ByteArray)) = false := beq_no (by
    rintro rfl
    have : (⟨#[]⟩ : ByteArray).size = 0 := rfl
    omega)
theorem is_empty {s : ByteArray} (h : s.size = 0) : s = ⟨#[]⟩ := by
  apply ByteArray.ext
  have : s.data.size = 0 := h
  exact Array.eq_empty_of_size_eq_zero this
theorem ls (s : ByteArray) : s.data.toList.length = s.size := by simp

theorem trimRightByte_any (s : ByteArray) (hs : s.size ≤ 1000000) (w : World) :
    Calls Tryz.prog 94 #[.string s, .int .u8 0] w fun e w' => e = .returned (.string ⟨(Gal.trim s.data.toList).toArray⟩) ∧ w = w' := by
  have hT : Gal.tn (Gal.co s.data.toList) s.size = Gal.nn s.data.toList := by unfold Gal.nn; rw [ls]
  obtain ⟨n, hn⟩ : ∃ n, s.size = n := ⟨_, rfl⟩
  have L := Lib.hid (fun k (h : k ≤ n) => cut_size s k (by omega))
  have C := Lib.hid (fun k m (h : m ≤ k) => cut_cut s k m h)
  have G := Lib.hid (fun k m t e hm hh => cut_get s k m t e hm hh)
  have HE := Lib.hid (cut_eq s)
  have HA := Lib.hid (cut_all s)
  rw [hn] at hs hT
  have HT := Lib.hid hT
  have HN := Lib.hid hn
  have hrel0 : ∃ s0, s0 = s.extract 0 n ∧ s0 = s := ⟨s, by rw [← hn, HA.out], rfl⟩
  obtain ⟨s0, h0, h1⟩ := hrel0
  rw [show (Value.string s) = Value.string s0 by rw [h1]]
  have H0 := Lib.hid h0
  clear hn hT HA h0 h1
  go_enter Tryz.func94, Tryz.ntmps94
  go_wp2_with fail
  go_loop [0] (fun v => ∃ k : Nat, k ≤ n ∧ v = .string (s.extract 0 k) ∧ Gal.tn (Gal.co s.data.toList) n = Gal.tn (Gal.co s.data.toList) k) (fun v => strLen v)
  case atStart => exact ⟨n, Nat.le_refl _, by rw [H0.out], rfl⟩
  case round =>
    obtain ⟨k, hk, rfl, ht⟩ := hrel
    have l1 := L.out k hk
    by_cases k0 : k = 0
    · subst k0
      have E := Lib.hid (show (⟨(Gal.trim s.data.toList).toArray⟩ : ByteArray) = s.extract 0 0 by
        rw [HE.out]
        unfold Gal.trim
        rw [← HT.out, ht]
        rfl)
      obtain ⟨t, ht'⟩ : ∃ t, s.extract 0 0 = t := ⟨_, rfl⟩
      rw [ht'] at l1 E ⊢
      clear ht G C L ht' HT HE
      go_wp2_with fail
      go_ret
      exact ⟨by rw [E.out]; rfl, rfl⟩
    · obtain ⟨m, rfl⟩ : ∃ m, k = m + 1 := ⟨k - 1, by omega⟩
      have c1 := C.out (m + 1) m (by omega)
      have tn1 : Gal.tn (Gal.co s.data.toList) (m + 1) = if Gal.co s.data.toList m = 0#8 then Gal.tn (Gal.co s.data.toList) m else m + 1 := rfl
      have E := fun (q : Gal.tn (Gal.co s.data.toList) n = m + 1) => (show (⟨(Gal.trim s.data.toList).toArray⟩ : ByteArray) = s.extract 0 (m + 1) by
        rw [HE.out]
        unfold Gal.trim
        rw [← HT.out, q])
      have hm1 : ((m + 1 : Nat) : Int) - 1 = (m : Int) := by omega
      have hm2 : IntKind.i64.wrap (((m + 1 : Nat) : Int) - 1) = (m : Int) := by rw [hm1, IntKind.wrap_i64]; omega
      obtain ⟨t, ht'⟩ : ∃ t, s.extract 0 (m + 1) = t := ⟨_, rfl⟩
      obtain ⟨t', ht''⟩ : ∃ t, s.extract 0 m = t := ⟨_, rfl⟩
      have l2 := L.out m (by omega)
      rw [ht'] at l1 c1 E ⊢
      rw [ht''] at c1 l2
      have HT'' := Lib.hid ht''
      obtain ⟨k, hkm⟩ : ∃ k, m + 1 = k := ⟨_, rfl⟩
      rw [hkm] at l1 hm1 hm2
      have tm : m < t.size := by omega
      have g1 := G.out (m + 1) m t ht' (by omega) tm
      have HKM := Lib.hid hkm
      by_cases z : Gal.co s.data.toList m = 0#8
      · rw [if_pos z] at tn1
        have HT2 := Lib.hid (ht.trans tn1)
        rw [z, show (0#8 : BitVec 8).toNat = 0 from rfl] at g1
        have kp : (0 : Int) < (k : Int) := by omega
        have km : k ≤ 1000000 := by omega
        clear E z tn1 ht ht' ht'' hkm G C L HT HE
        go_wp2_with fail
        go_round
        case rel => exact ⟨m, by omega, by rw [HT''.out], HT2.out⟩
        case measure => simp [strLen]; omega
      · rw [if_neg z] at tn1
        have E2 := Lib.hid (E (ht.trans tn1))
        have ne := eq0 z
        rw [← g1] at ne
        have kp : (0 : Int) < (k : Int) := by omega
        clear E z tn1 ht ht' ht'' hkm G C L HT HE g1
        go_wp2_with fail
        go_ret
        exact ⟨by rw [E2.out]; rfl, rfl⟩
set_option maxRecDepth 100000 in
theorem trimRight_any (s : ByteArray) (hs : s.size ≤ 1000000) (w : World) :
    Calls Tryz.prog 78 #[.string s, .string { data := #[0] }] w fun e w' => e = .returned (.string ⟨(Gal.trim s.data.toList).toArray⟩) ∧ w = w' := by
  by_cases h0 : s.size = 0
  · obtain rfl := is_empty h0
    clear h0 hs
    rw [show Gal.trim (⟨#[]⟩ : ByteArray).data.toList = [] from rfl]
    go_enter Tryz.func78, Tryz.ntmps78
    go_wp2_with fail
    go_ret
    exact ⟨rfl, rfl⟩
  · have q1 := empty_no (s := s) (by omega)
    have q2 := beq_empty (s := s) (by omega)
    have T := Lib.hid (trimRightByte_any s hs w)
    clear h0
    go_enter Tryz.func78, Tryz.ntmps78
    go_wp2_with fail
    refine T.out.mono ?_
    rintro e w' ⟨rfl, rfl⟩
    go_wp2_with fail
    go_ret
    exact ⟨rfl, rfl⟩
theorem trimmed_any (s : ByteArray) (hs : s.size ≤ 1000000) (w : World) :
    Calls Tryz.prog 57 #[.string s] w fun e w' => e = .returned (.string ⟨(Gal.trim s.data.toList).toArray⟩) ∧ w = w' := by
  have T := Lib.hid (trimRight_any s hs w)
  go_enter Tryz.func57, Tryz.ntmps57
  go_wp2_with fail
  (with_reducible refine T.out.mono ?_)
  rintro e w' ⟨rfl, rfl⟩
  go_wp2_with fail
  go_ret
  exact ⟨rfl, rfl⟩
theorem trim_size (l : List UInt8) : (⟨(Gal.trim l).toArray⟩ : ByteArray).size = Gal.nn l := by
  show (Gal.trim l).toArray.size = _
  rw [List.size_toArray, Gal.trim_length]
theorem degree_any (s : ByteArray) (hs : s.size ≤ 1000000) (w : World) :
    Calls Tryz.prog 88 #[.string s] w fun e w' => e = .returned (.int .i64 ((Gal.nn s.data.toList : Int) - 1)) ∧ w = w' := by
  have T := Lib.hid (trimmed_any s hs w)
  have hz := trim_size s.data.toList
  have hl := Gal.nn_le s.data.toList
  rw [ls] at hl
  obtain ⟨t, ht⟩ : ∃ t : ByteArray, (⟨(Gal.trim s.data.toList).toArray⟩ : ByteArray) = t := ⟨_, rfl⟩
  obtain ⟨k, hk⟩ : ∃ k, Gal.nn s.data.toList = k := ⟨_, rfl⟩
  rw [ht] at T hz
  rw [hk] at hz hl ⊢
  have k2 : k ≤ 1000000 := by omega
  clear ht hk hl hs
  go_enter Tryz.func88, Tryz.ntmps88
  go_wp2_with fail
  (with_reducible refine T.out.mono ?_)
  rintro e w' ⟨rfl, rfl⟩
  go_wp2_with fail
  go_ret
  exact ⟨rfl, rfl⟩
theorem rdegree_any (s : ByteArray) (hs : s.size ≤ 1000000) (w : World) :
    Calls Tryz.prog 42 #[.string s] w fun e w' => e = .returned (.int .i64 ((Gal.nn s.data.toList : Int) - 1)) ∧ w = w' := by
  have hT : Gal.tn (Gal.co s.data.toList) s.size = Gal.nn s.data.toList := by unfold Gal.nn; rw [ls]
  obtain ⟨n, hn⟩ : ∃ n, s.size = n := ⟨_, rfl⟩
  rw [hn] at hs hT
  have HT := Lib.hid hT
  have G := Lib.hid (fun m (h : m < n) => byte_co s m (by omega))
  clear hT
  go_enter Tryz.func42, Tryz.ntmps42
  go_wp2_with fail
  go_loop [3] (fun v => ∃ k : Nat, k ≤ n ∧ v = .int .i64 ((k : Int) - 1) ∧ Gal.tn (Gal.co s.data.toList) n = Gal.tn (Gal.co s.data.toList) k) (fun v => (intOf v + 1).toNat)
  case atStart => exact ⟨n, Nat.le_refl _, rfl, rfl⟩
  case round =>
    obtain ⟨k, hk, rfl, ht⟩ := hrel
    by_cases k0 : k = 0
    · subst k0
      rw [show ((0 : Nat) : Int) - 1 = -1 from rfl]
      have E := Lib.hid (show (Gal.nn s.data.toList : Int) - 1 = -1 by
        rw [← HT.out, ht]
        rfl)
      clear ht G HT
      go_wp2_with fail
      go_ret
      exact ⟨by rw [E.out]; rfl, rfl⟩
    · obtain ⟨m, rfl⟩ : ∃ m, k = m + 1 := ⟨k - 1, by omega⟩
      have g1 := G.out m (by omega)
      have tn1 : Gal.tn (Gal.co s.data.toList) (m + 1) = if Gal.co s.data.toList m = 0#8 then Gal.tn (Gal.co s.data.toList) m else m + 1 := rfl
      have E := fun (q : Gal.tn (Gal.co s.data.toList) n = m + 1) => (show (Gal.nn s.data.toList : Int) - 1 = (m : Int) by
        rw [← HT.out, q]
        omega)
      rw [show ((m + 1 : Nat) : Int) - 1 = (m : Int) by omega]
      have tm : m < s.size := by omega
      by_cases z : Gal.co s.data.toList m = 0#8
      · rw [if_pos z] at tn1
        have HT2 := Lib.hid (ht.trans tn1)
        rw [z, show (0#8 : BitVec 8).toNat = 0 from rfl] at g1
        clear E z tn1 ht G HT
        go_wp2_with fail
        go_round
        case rel => exact ⟨m, by omega, rfl, HT2.out⟩
        case measure => simp [intOf]
      · rw [if_neg z] at tn1
        have E2 := Lib.hid (E (ht.trans tn1))
        have ne := eq0 z
        rw [← g1] at ne
        clear E z tn1 ht G HT g1
        go_wp2_with fail
        go_ret
        exact ⟨by rw [E2.out]; rfl, rfl⟩
theorem rtrim_any (s : ByteArray) (hs : s.size ≤ 1000000) (w : World) :
    Calls Tryz.prog 43 #[.string s] w fun e w' => e = .returned (.string ⟨(Gal.trim s.data.toList).toArray⟩) ∧ w = w' := by
  have T := Lib.hid (rdegree_any s hs w)
  have hl := Gal.nn_le s.data.toList
  rw [ls] at hl
  have E := Lib.hid (show (⟨(Gal.trim s.data.toList).toArray⟩ : ByteArray) = s.extract 0 (Gal.nn s.data.toList) by rw [cut_eq]; rfl)
  obtain ⟨k, hk⟩ : ∃ k, Gal.nn s.data.toList = k := ⟨_, rfl⟩
  rw [hk] at T hl E
  have k2 : (k : Int) ≤ 1000000 := by omega
  have e1 : IntKind.i64.wrap ((k : Int) - 1 + 1) = (k : Int) := by rw [IntKind.wrap_i64]; omega
  have e2 : (k : Int) - 1 + 1 = (k : Int) := by omega
  have k3 : (k : Int) ≤ (s.size : Int) := by omega
  clear hk
  go_enter Tryz.func43, Tryz.ntmps43
  go_wp2_with fail
  (with_reducible refine T.out.mono ?_)
  rintro e w' ⟨rfl, rfl⟩
  go_wp2_with fail
  go_ret
  exact ⟨by rw [E.out]; rfl, rfl⟩
end Go.Proofs.YtlpjhmafplljaaaGreatDoor
