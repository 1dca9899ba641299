/- FieldsDistance: of all strings of at most 5000 bytes the program's Flip and Distance return what the document says; Distance is the same both ways and 0 for equal strings alone; Flip changes it by 1, and twice not at all. No condition. -/
import Derived.Test.YtgfjmolihobaeaaRowKit
import Derived.Test.YtgfjmolihobaeaaFldAwake
import Derived.Test.YtgfjmolihobaeaaFldBits
namespace Go.Proofs.Ytgfjmolihobaeaa
open Go.ChangeShapes Go.WideShapes Go.ChangeAt Go.RowKit
set_option linter.unusedVariables false

namespace fieldsDistance

theorem flip_out (l : List UInt8) (p : Int) (a : Nat) (h : Fld.chk l.length p 1 = 0) (hp : p = (a : Int)) : Fld.flipV l p = Fld.flip l a := by
  subst hp
  unfold Fld.flipV Fld.flip
  rw [if_pos h]
  rfl
theorem chkD_comm (m n : Nat) : Fld.chkD m n = Fld.chkD n m := by
  unfold Fld.chkD
  by_cases a : 65536 < m ∨ 65536 < n
  · rw [if_pos a, if_pos (show 65536 < n ∨ 65536 < m from Or.symm a)]
  · have a' : ¬ (65536 < n ∨ 65536 < m) := fun b => a (Or.symm b)
    rw [if_neg a, if_neg a']
    by_cases e : m = n
    · subst e; rfl
    · rw [if_neg e, if_neg (fun f : n = m => e f.symm)]
theorem distV_comm (a b : List UInt8) : Fld.distV a b = Fld.distV b a := by
  unfold Fld.distV
  rw [chkD_comm]
  by_cases e : Fld.chkD b.length a.length = 0
  · rw [if_pos e, if_pos e]
    have : a.length = b.length := by
      unfold Fld.chkD at e
      split at e
      · cases e
      · split at e
        · omega
        · cases e
    rw [this, Fld.dst_comm]
  · rw [if_neg e, if_neg e]
theorem beq_no {s t : ByteArray} (h : s ≠ t) : (s == t) = false := by
  rw [Bool.eq_false_iff]
  intro e
  exact h (by
    have : s.data == t.data := e
    cases s
    cases t
    simp_all)
theorem beq_no_list {s t : ByteArray} (h : s ≠ t) : (s.toList == t.toList) = false := by rw [← beq_toListBytes, beq_no h]
theorem data_ne {s t : ByteArray} (h : s ≠ t) : s.data.toList ≠ t.data.toList := by
  intro e
  apply h
  cases s
  cases t
  simp_all

set_option maxRecDepth 100000 in
set_option maxHeartbeats 2000000 in
theorem walk_no (s t : ByteArray) (p : Int) (hs : s.size ≤ 5000) (ht : t.size ≤ 5000) (h : Fld.chkD s.size t.size = 2) (w : World) :
    Calls Try.prog 8 #[.string s, .string t, .int .i64 p] w fun e w' => e = .returned (.bool true) ∧ Below w.heap.size w w' := by
  have AW := Lib.hid (fun w => awake_any w)
  have FL := Lib.hid (fun w => flip_any s p (by omega) w)
  have RF := Lib.hid (fun w => rflip_any s p (by omega) w)
  have D := Lib.hid (fun w => dist_any s t (by omega) (by omega) w)
  have RD := Lib.hid (fun w => rdist_any s t (by omega) (by omega) w)
  have D2 := Lib.hid (fun w => dist_any t s (by omega) (by omega) w)
  rw [distV_comm, chkD_comm] at D2
  rw [h] at D RD D2
  obtain ⟨n, hn⟩ : ∃ n, Fld.distV s.data.toList t.data.toList = n := ⟨_, rfl⟩
  rw [hn] at D RD D2
  obtain ⟨e0, he⟩ : ∃ e, Fld.chk s.size p 1 = e := ⟨_, rfl⟩
  obtain ⟨c, hc⟩ : ∃ c : ByteArray, (⟨(Fld.flipV s.data.toList p).toArray⟩ : ByteArray) = c := ⟨_, rfl⟩
  rw [he, hc] at FL RF
  clear hn h he hc
  by_cases z : e0 = 0
  · subst z
    go_enter Try.func8, Try.ntmps8
    go_wp2_with fail
    (with_reducible refine (FL.out _).mono ?_)
    rintro e w1 ⟨rfl, h1⟩
    have H1 := Lib.hid (h1)
    clear h1
    go_wp2_with fail
    (with_reducible refine (RF.out _).mono ?_)
    rintro e w2 ⟨rfl, h2⟩
    have H2 := Lib.hid (bt H1.out h2)
    clear h2 H1
    go_wp2_with fail
    (with_reducible refine (D.out _).mono ?_)
    rintro e w3 ⟨rfl, h3⟩
    have H3 := Lib.hid (bt H2.out h3)
    clear h3 H2
    go_wp2_with fail
    (with_reducible refine (RD.out _).mono ?_)
    rintro e w3 ⟨rfl, rfl⟩
    go_wp2_with fail
    (with_reducible refine (D2.out _).mono ?_)
    rintro e w4 ⟨rfl, h4⟩
    have H4 := Lib.hid (bt H3.out h4)
    clear h4 H3
    go_wp2_with fail
    (with_reducible refine (AW.out _).mono ?_)
    rintro e w5 ⟨rfl, h5⟩
    have H5 := Lib.hid (bt H4.out h5)
    clear h5 H4
    go_wp2_with fail
    go_ret
    exact ⟨rfl, H5.out⟩
  · have z1 : (e0 == 0) = false := by simpa using z
    have z2 : (e0 != 0) = true := by simpa using z
    clear z
    go_enter Try.func8, Try.ntmps8
    go_wp2_with fail
    (with_reducible refine (FL.out _).mono ?_)
    rintro e w1 ⟨rfl, h1⟩
    have H1 := Lib.hid (h1)
    clear h1
    go_wp2_with fail
    (with_reducible refine (RF.out _).mono ?_)
    rintro e w2 ⟨rfl, h2⟩
    have H2 := Lib.hid (bt H1.out h2)
    clear h2 H1
    go_wp2_with fail
    (with_reducible refine (D.out _).mono ?_)
    rintro e w3 ⟨rfl, h3⟩
    have H3 := Lib.hid (bt H2.out h3)
    clear h3 H2
    go_wp2_with fail
    (with_reducible refine (RD.out _).mono ?_)
    rintro e w3 ⟨rfl, rfl⟩
    go_wp2_with fail
    (with_reducible refine (D2.out _).mono ?_)
    rintro e w4 ⟨rfl, h4⟩
    have H4 := Lib.hid (bt H3.out h4)
    clear h4 H3
    go_wp2_with fail
    (with_reducible refine (AW.out _).mono ?_)
    rintro e w5 ⟨rfl, h5⟩
    have H5 := Lib.hid (bt H4.out h5)
    clear h5 H4
    go_wp2_with fail
    go_ret
    exact ⟨rfl, H5.out⟩

set_option maxRecDepth 100000 in
set_option maxHeartbeats 2000000 in
theorem walk_yes (s t : ByteArray) (p : Int) (hs : s.size ≤ 5000) (ht : t.size ≤ 5000) (h : s.size = t.size) (z : ¬ Fld.chk s.size p 1 = 0) (w : World) :
    Calls Try.prog 8 #[.string s, .string t, .int .i64 p] w fun e w' => e = .returned (.bool true) ∧ Below w.heap.size w w' := by
  have AW := Lib.hid (fun w => awake_any w)
  have FL := Lib.hid (fun w => flip_any s p (by omega) w)
  have RF := Lib.hid (fun w => rflip_any s p (by omega) w)
  have D := Lib.hid (fun w => dist_any s t (by omega) (by omega) w)
  have RD := Lib.hid (fun w => rdist_any s t (by omega) (by omega) w)
  have D2 := Lib.hid (fun w => dist_any t s (by omega) (by omega) w)
  rw [distV_comm, chkD_comm] at D2
  have g : Fld.chkD s.size t.size = 0 := by unfold Fld.chkD; rw [if_neg (by omega), if_pos h]
  have ls : s.data.toList.length = s.size := by simp
  have lt : t.data.toList.length = t.size := by simp
  have dz := Fld.dst_eq s.data.toList t.data.toList (by omega)
  rw [ls] at dz
  rw [Fld.distV_ok ls lt g, g] at D RD D2
  obtain ⟨e0, he⟩ : ∃ e, Fld.chk s.size p 1 = e := ⟨_, rfl⟩
  obtain ⟨c, hc⟩ : ∃ c : ByteArray, (⟨(Fld.flipV s.data.toList p).toArray⟩ : ByteArray) = c := ⟨_, rfl⟩
  rw [he, hc] at FL RF
  rw [he] at z
  have z1 : (e0 == 0) = false := by simpa using z
  have z2 : (e0 != 0) = true := by simpa using z
  clear z he hc g ls lt
  by_cases q : s = t
  · subst q
    have d0 : Fld.dst s.data.toList s.data.toList (8 * s.size) = 0 := dz.2 rfl
    rw [d0] at D RD D2
    clear d0 dz h
    go_enter Try.func8, Try.ntmps8
    go_wp2_with fail
    (with_reducible refine (FL.out _).mono ?_)
    rintro e w1 ⟨rfl, h1⟩
    have H1 := Lib.hid (h1)
    clear h1
    go_wp2_with fail
    (with_reducible refine (RF.out _).mono ?_)
    rintro e w2 ⟨rfl, h2⟩
    have H2 := Lib.hid (bt H1.out h2)
    clear h2 H1
    go_wp2_with fail
    (with_reducible refine (D.out _).mono ?_)
    rintro e w3 ⟨rfl, h3⟩
    have H3 := Lib.hid (bt H2.out h3)
    clear h3 H2
    go_wp2_with fail
    (with_reducible refine (RD.out _).mono ?_)
    rintro e w3 ⟨rfl, rfl⟩
    go_wp2_with fail
    (with_reducible refine (D2.out _).mono ?_)
    rintro e w4 ⟨rfl, h4⟩
    have H4 := Lib.hid (bt H3.out h4)
    clear h4 H3
    go_wp2_with fail
    (with_reducible refine (AW.out _).mono ?_)
    rintro e w5 ⟨rfl, h5⟩
    have H5 := Lib.hid (bt H4.out h5)
    clear h5 H4
    go_wp2_with fail
    go_ret
    exact ⟨rfl, H5.out⟩

  · have q1 := beq_no q
    have q2 := beq_no_list q
    have d0 : Fld.dst s.data.toList t.data.toList (8 * s.size) ≠ 0 := fun e => data_ne q (dz.1 e)
    obtain ⟨n, hn⟩ : ∃ n, Fld.dst s.data.toList t.data.toList (8 * s.size) = n := ⟨_, rfl⟩
    rw [hn] at d0 D RD D2
    have n1 : ((n : Int) == 0) = false := by simp; omega
    clear d0 dz h q hn
    go_enter Try.func8, Try.ntmps8
    go_wp2_with fail
    (with_reducible refine (FL.out _).mono ?_)
    rintro e w1 ⟨rfl, h1⟩
    have H1 := Lib.hid (h1)
    clear h1
    go_wp2_with fail
    (with_reducible refine (RF.out _).mono ?_)
    rintro e w2 ⟨rfl, h2⟩
    have H2 := Lib.hid (bt H1.out h2)
    clear h2 H1
    go_wp2_with fail
    (with_reducible refine (D.out _).mono ?_)
    rintro e w3 ⟨rfl, h3⟩
    have H3 := Lib.hid (bt H2.out h3)
    clear h3 H2
    go_wp2_with fail
    (with_reducible refine (RD.out _).mono ?_)
    rintro e w3 ⟨rfl, rfl⟩
    go_wp2_with fail
    (with_reducible refine (D2.out _).mono ?_)
    rintro e w4 ⟨rfl, h4⟩
    have H4 := Lib.hid (bt H3.out h4)
    clear h4 H3
    go_wp2_with fail
    (with_reducible refine (AW.out _).mono ?_)
    rintro e w5 ⟨rfl, h5⟩
    have H5 := Lib.hid (bt H4.out h5)
    clear h5 H4
    go_wp2_with fail
    go_ret
    exact ⟨rfl, H5.out⟩


set_option maxRecDepth 100000 in
set_option maxHeartbeats 4000000 in
theorem walk_all (s t : ByteArray) (a : Nat) (hs : s.size ≤ 5000) (ht : t.size ≤ 5000) (h : s.size = t.size) (ha : a < 8 * s.size) (w : World) :
    Calls Try.prog 8 #[.string s, .string t, .int .i64 a] w fun e w' => e = .returned (.bool true) ∧ Below w.heap.size w w' := by
  have AW := Lib.hid (fun w => awake_any w)
  have z : Fld.chk s.size a 1 = 0 := Fld.chk_ok (by omega) ⟨⟨by omega, by omega⟩, by omega, by omega⟩
  have ls : s.data.toList.length = s.size := by simp
  have lt : t.data.toList.length = t.size := by simp
  have fv := flip_out s.data.toList a a (by rw [ls]; exact z) rfl
  have fl := Fld.flip_length s.data.toList a
  have FL := Lib.hid (fun w => flip_any s a (by omega) w)
  have RF := Lib.hid (fun w => rflip_any s a (by omega) w)
  rw [fv, z] at FL RF
  have D := Lib.hid (fun w => dist_any s t (by omega) (by omega) w)
  have RD := Lib.hid (fun w => rdist_any s t (by omega) (by omega) w)
  have D2 := Lib.hid (fun w => dist_any t s (by omega) (by omega) w)
  rw [distV_comm, chkD_comm] at D2
  have g : Fld.chkD s.size t.size = 0 := by unfold Fld.chkD; rw [if_neg (by omega), if_pos h]
  have dz := Fld.dst_eq s.data.toList t.data.toList (by omega)
  rw [ls] at dz
  rw [Fld.distV_ok ls lt g, g] at D RD D2
  obtain ⟨c, hc⟩ : ∃ c : ByteArray, (⟨(Fld.flip s.data.toList a).toArray⟩ : ByteArray) = c := ⟨_, rfl⟩
  have cl : c.data.toList = Fld.flip s.data.toList a := by rw [← hc]
  have cs : c.size = s.size := by rw [← ls, ← fl, ← cl]; simp
  rw [hc] at FL RF
  have ONE := Lib.hid (fun w => dist_any s c (by omega) (by omega) w)
  have PD := Lib.hid (fun w => dist_any c t (by omega) (by omega) w)
  have BK := Lib.hid (fun w => flip_any c a (by omega) w)
  have lc : c.data.toList.length = s.size := by rw [cl, fl, ls]
  have gs : Fld.chkD s.size s.size = 0 := by unfold Fld.chkD; rw [if_neg (by omega), if_pos rfl]
  rw [cs] at ONE PD BK
  rw [Fld.distV_ok ls lc gs, gs, cl, Fld.dst_flip _ _ (by rw [ls]; exact ha), if_pos ha] at ONE
  rw [Fld.distV_ok lc lt g, g, cl] at PD
  rw [flip_out c.data.toList a a (by rw [lc]; exact z) rfl, z, cl, Fld.flip_flip _ _ (by rw [ls]; exact ha)] at BK
  have sb : (⟨s.data.toList.toArray⟩ : ByteArray) = s := by cases s; simp
  rw [sb] at BK
  have other := (Fld.dst_flip_other s.data.toList t.data.toList a (by rw [ls]; exact ha) (8 * s.size)).2 ha
  have bd := Fld.dst_le s.data.toList t.data.toList (8 * s.size)
  obtain ⟨m, hm⟩ : ∃ m, Fld.dst (Fld.flip s.data.toList a) t.data.toList (8 * s.size) = m := ⟨_, rfl⟩
  rw [hm] at PD other
  clear hc cl cs lc ls lt fv fl sb hm gs g z
  by_cases q : s = t
  · subst q
    have d0 : Fld.dst s.data.toList s.data.toList (8 * s.size) = 0 := dz.2 rfl
    rw [d0] at D RD D2 other
    obtain rfl : m = 1 := by omega
    clear d0 dz h bd other
    go_enter Try.func8, Try.ntmps8
    go_wp2_with fail
    (with_reducible refine (FL.out _).mono ?_)
    rintro e w1 ⟨rfl, h1⟩
    have H1 := Lib.hid (h1)
    clear h1
    go_wp2_with fail
    (with_reducible refine (RF.out _).mono ?_)
    rintro e w2 ⟨rfl, h2⟩
    have H2 := Lib.hid (bt H1.out h2)
    clear h2 H1
    go_wp2_with fail
    (with_reducible refine (D.out _).mono ?_)
    rintro e w3 ⟨rfl, h3⟩
    have H3 := Lib.hid (bt H2.out h3)
    clear h3 H2
    go_wp2_with fail
    (with_reducible refine (RD.out _).mono ?_)
    rintro e w3 ⟨rfl, rfl⟩
    go_wp2_with fail
    (with_reducible refine (D2.out _).mono ?_)
    rintro e w4 ⟨rfl, h4⟩
    have H4 := Lib.hid (bt H3.out h4)
    clear h4 H3
    go_wp2_with fail
    (with_reducible refine (ONE.out _).mono ?_)
    rintro e w5 ⟨rfl, h5⟩
    have H5 := Lib.hid (bt H4.out h5)
    clear h5 H4
    go_wp2_with fail
    (with_reducible refine (PD.out _).mono ?_)
    rintro e w6 ⟨rfl, h6⟩
    have H6 := Lib.hid (bt H5.out h6)
    clear h6 H5
    go_wp2_with fail
    (with_reducible refine (BK.out _).mono ?_)
    rintro e w7 ⟨rfl, h7⟩
    have H7 := Lib.hid (bt H6.out h7)
    clear h7 H6
    go_wp2_with fail
    (with_reducible refine (AW.out _).mono ?_)
    rintro e w8 ⟨rfl, h8⟩
    have H8 := Lib.hid (bt H7.out h8)
    clear h8 H7
    go_wp2_with fail
    go_ret
    exact ⟨rfl, H8.out⟩

  · have q1 := beq_no q
    have q2 := beq_no_list q
    have d0 : Fld.dst s.data.toList t.data.toList (8 * s.size) ≠ 0 := fun e => data_ne q (dz.1 e)
    obtain ⟨n, hn⟩ : ∃ n, Fld.dst s.data.toList t.data.toList (8 * s.size) = n := ⟨_, rfl⟩
    rw [hn] at d0 D RD D2 other bd
    have n1 : ((n : Int) == 0) = false := by simp; omega
    have n2 : n ≤ 40000 := by omega
    clear d0 dz h q hn bd
    rcases other with other | other
    · have o1 : ((m : Int) == (n : Int) + 1) = true := by simp; omega
      clear other
      go_enter Try.func8, Try.ntmps8
      go_wp2_with fail
      (with_reducible refine (FL.out _).mono ?_)
      rintro e w1 ⟨rfl, h1⟩
      have H1 := Lib.hid (h1)
      clear h1
      go_wp2_with fail
      (with_reducible refine (RF.out _).mono ?_)
      rintro e w2 ⟨rfl, h2⟩
      have H2 := Lib.hid (bt H1.out h2)
      clear h2 H1
      go_wp2_with fail
      (with_reducible refine (D.out _).mono ?_)
      rintro e w3 ⟨rfl, h3⟩
      have H3 := Lib.hid (bt H2.out h3)
      clear h3 H2
      go_wp2_with fail
      (with_reducible refine (RD.out _).mono ?_)
      rintro e w3 ⟨rfl, rfl⟩
      go_wp2_with fail
      (with_reducible refine (D2.out _).mono ?_)
      rintro e w4 ⟨rfl, h4⟩
      have H4 := Lib.hid (bt H3.out h4)
      clear h4 H3
      go_wp2_with fail
      (with_reducible refine (ONE.out _).mono ?_)
      rintro e w5 ⟨rfl, h5⟩
      have H5 := Lib.hid (bt H4.out h5)
      clear h5 H4
      go_wp2_with fail
      (with_reducible refine (PD.out _).mono ?_)
      rintro e w6 ⟨rfl, h6⟩
      have H6 := Lib.hid (bt H5.out h6)
      clear h6 H5
      go_wp2_with fail
      (with_reducible refine (BK.out _).mono ?_)
      rintro e w7 ⟨rfl, h7⟩
      have H7 := Lib.hid (bt H6.out h7)
      clear h7 H6
      go_wp2_with fail
      (with_reducible refine (AW.out _).mono ?_)
      rintro e w8 ⟨rfl, h8⟩
      have H8 := Lib.hid (bt H7.out h8)
      clear h8 H7
      go_wp2_with fail
      go_ret
      exact ⟨rfl, H8.out⟩

    · have o1 : ((m : Int) == (n : Int) + 1) = false := by simp; omega
      have o2 : ((m : Int) == (n : Int) - 1) = true := by simp; omega
      have n3 : 1 ≤ n := by omega
      clear other
      go_enter Try.func8, Try.ntmps8
      go_wp2_with fail
      (with_reducible refine (FL.out _).mono ?_)
      rintro e w1 ⟨rfl, h1⟩
      have H1 := Lib.hid (h1)
      clear h1
      go_wp2_with fail
      (with_reducible refine (RF.out _).mono ?_)
      rintro e w2 ⟨rfl, h2⟩
      have H2 := Lib.hid (bt H1.out h2)
      clear h2 H1
      go_wp2_with fail
      (with_reducible refine (D.out _).mono ?_)
      rintro e w3 ⟨rfl, h3⟩
      have H3 := Lib.hid (bt H2.out h3)
      clear h3 H2
      go_wp2_with fail
      (with_reducible refine (RD.out _).mono ?_)
      rintro e w3 ⟨rfl, rfl⟩
      go_wp2_with fail
      (with_reducible refine (D2.out _).mono ?_)
      rintro e w4 ⟨rfl, h4⟩
      have H4 := Lib.hid (bt H3.out h4)
      clear h4 H3
      go_wp2_with fail
      (with_reducible refine (ONE.out _).mono ?_)
      rintro e w5 ⟨rfl, h5⟩
      have H5 := Lib.hid (bt H4.out h5)
      clear h5 H4
      go_wp2_with fail
      (with_reducible refine (PD.out _).mono ?_)
      rintro e w6 ⟨rfl, h6⟩
      have H6 := Lib.hid (bt H5.out h6)
      clear h6 H5
      go_wp2_with fail
      (with_reducible refine (BK.out _).mono ?_)
      rintro e w7 ⟨rfl, h7⟩
      have H7 := Lib.hid (bt H6.out h7)
      clear h7 H6
      go_wp2_with fail
      (with_reducible refine (AW.out _).mono ?_)
      rintro e w8 ⟨rfl, h8⟩
      have H8 := Lib.hid (bt H7.out h8)
      clear h8 H7
      go_wp2_with fail
      go_ret
      exact ⟨rfl, H8.out⟩

set_option maxHeartbeats 1000000 in
theorem walk (s : ByteArray) (hs : s.size ≤ maxLen) (t : ByteArray) (ht : t.size ≤ maxLen) (p : Int) (hp : (Lit.int .i64 p).wf = true) (w : World) :
    Calls Try.prog 8 #[.string s, .string t, .int .i64 p] w fun e w' => e = .returned (.bool true) ∧ Below w.heap.size w w' := by
  clear hp
  unfold maxLen at hs ht
  by_cases h1 : 5000 < s.size
  · have AW := Lib.hid (fun w => awake_any w)
    go_enter Try.func8, Try.ntmps8
    go_wp2_with fail
    (with_reducible refine (AW.out _).mono ?_)
    rintro e w1 ⟨rfl, h1⟩
    go_wp2_with fail
    go_ret
    exact ⟨rfl, h1⟩
  · by_cases h2 : 5000 < t.size
    · have AW := Lib.hid (fun w => awake_any w)
      have h1' : decide ((5000 : Int) < (s.size : Int)) = false := by simp; omega
      go_enter Try.func8, Try.ntmps8
      go_wp2_with fail
      (with_reducible refine (AW.out _).mono ?_)
      rintro e w1 ⟨rfl, h1⟩
      go_wp2_with fail
      go_ret
      exact ⟨rfl, h1⟩

    · by_cases h3 : s.size = t.size
      · by_cases z : Fld.chk s.size p 1 = 0
        · obtain ⟨⟨⟨k1, k2⟩, k3, k4⟩, k5⟩ := Fld.chk_cases z
          obtain ⟨a, rfl⟩ := Int.eq_ofNat_of_zero_le k3
          exact walk_all s t a (by omega) (by omega) h3 (by omega) w
        · exact walk_yes s t p (by omega) (by omega) h3 z w
      · exact walk_no s t p (by omega) (by omega) (by unfold Fld.chkD; rw [if_neg (by omega), if_neg h3]) w

set_option maxRecDepth 100000 in
theorem lifted (os : Os) (started : os.Started) (H : Type) (enc : TypeId × Value → H) :
    ReturnsInHanded {} Try.checked os 8 .any (Rows.fieldsDistanceSpec.pre6 enc Try.prog Try.f8 Rows.fieldsDistanceRow.domain false) (Rows.fieldsDistanceSpec.post enc Try.prog Try.f8 false true false false) := by
  refine returnsInHanded_of_change (C := Try.checked) own started (by kernel_rfl) Try.func8
    (ChangeSpec.witness6 (enc := enc) (C := Try.checked) false ⟨#[], #[.string { data := #[] }, .string { data := #[] }, .int .i64 0], []⟩ 8 (by kernel_rfl) (by kernel_rfl) (by kernel_rfl) (by kernel_rfl)) ?_
  intro W base args ds gs before hval0 hW _ _
  have hval : ∀ (j : Nat) t v, Try.f8.params[j]? = some t → args[j]? = some v → Value.okWide Try.prog W .any base t v := hval0
  have hW' := hW
  obtain ⟨p, q, hA0, hV, rfl, hfz, hnd⟩ := hW
  have hA : DataW.TrodAll enc Try.prog W 0 (fun _ => true) true Try.f8.params.toList args.toList ds p := hA0
  rw [Try.params8] at hA hval
  obtain ⟨v0, vs0, d0, ds0, p0, q0, hargs, rfl, rfl, h0, r0⟩ := trodAll_cons hA
  obtain ⟨v1, vs1, d1, ds1, p1, q1, rfl, rfl, rfl, h1, r1⟩ := trodAll_cons r0
  obtain ⟨v2, vs2, d2, ds2, p2, q2, rfl, rfl, rfl, h2, r2⟩ := trodAll_cons r1
  obtain ⟨rfl, rfl, rfl⟩ := trodAll_nil r2
  obtain rfl : args = #[v0, v1, v2] := by cases args; simp_all
  obtain ⟨rfl, rfl⟩ := trodVars_none hV
  obtain ⟨a0, rfl, rfl, rfl, w0⟩ := ChangeMaps.open_string Try.underlying9 (hval 0 9 v0 rfl rfl) h0
  obtain ⟨a1, rfl, rfl, rfl, w1⟩ := ChangeMaps.open_string Try.underlying9 (hval 1 9 v1 rfl rfl) h1
  obtain ⟨a2, rfl, rfl, rfl, w2⟩ := open_int Try.underlying3 (hval 2 3 v2 rfl rfl) h2
  clear hA0 hval0
  simp only [List.append_nil] at hW'
  refine (walk a0 w0 a1 w1 a2 w2 W).mono fun e W' ⟨he, hg⟩ => ?_
  subst he
  exact ⟨_, rfl, post_of_below (pa := []) (pv := []) hW' (fun _ _ _ => trodAll_cons_mk (shut_bool Try.underlying4 _) trodAll_mk0) (fun sp _ => (trodAll_cons_mk (ChangeMaps.shut_string Try.underlying9 w0) (trodAll_cons_mk (ChangeMaps.shut_string Try.underlying9 w1) (trodAll_cons_mk (shut_int Try.underlying3 w2) trodAll_mk0)))) (fun _ _ => rfl) rfl
    hg (ok_one (by kernel_rfl) rfl (okWide_bool_mk Try.underlying4 _))⟩

theorem proved : Rows.FieldsDistanceSaid :=
  OpenClaim.holds_of_wide 8 Try.f8 rfl rfl rfl rfl rfl rfl rfl ⟨rfl, rfl, rfl, rfl, rfl⟩ rfl rfl rfl rfl rfl (by kernel_rfl) Try.func8 (by kernel_rfl)
    (of_decide_eq_true (by kernel_rfl)) (by unfold Func.isWrapper; first | (rw [if_pos (by decide +kernel)]; kernel_rfl) | (rw [if_neg (by decide +kernel)]; exact ⟨rfl, rfl⟩))
    (fun os started H enc _ => lifted os started H enc)
#print axioms proved
end fieldsDistance
end Go.Proofs.Ytgfjmolihobaeaa
