/- The contracts of perigeeref05's Differ, part, inside, Whole over this program. -/
import Derived.Test.YtlpjhmafplljaaaGreatDoorBlkRef
namespace Go.Proofs.YtlpjhmafplljaaaGreatDoor
open Go.RowKit
set_option linter.unusedVariables false

namespace Blk
/-- How many of the first k numbers keep P. -/
def cnt (P : Nat → Bool) (k : Nat) : Nat := ((List.range k).filter P).length
theorem cnt_succ (P : Nat → Bool) (k : Nat) : cnt P (k + 1) = cnt P k + (if P k then 1 else 0) := by
  unfold cnt
  rw [List.range_succ, List.filter_append, List.length_append]
  by_cases h : P k <;> simp [h]
theorem cnt_le (P : Nat → Bool) (k : Nat) : cnt P k ≤ k := by
  have := List.length_filter_le P (List.range k)
  simpa [cnt] using this
/-- Two lists differ at i. -/
def ne2 (a b : List UInt8) (i : Nat) : Bool := decide (Gal.co a i ≠ Gal.co b i)
theorem dif_cnt (a b : List UInt8) : (dif a b).length = cnt (ne2 a b) a.length := rfl
/-- How many bytes a part has. -/
def parts (n j d : Nat) : Nat := (n + d - 1 - j) / d
theorem parts_iff (n j d k : Nat) (hj : j < d) : j + k * d < n ↔ k < parts n j d := by
  unfold parts
  have e := Nat.le_div_iff_mul_le (x := k + 1) (y := n + d - 1 - j) (show 0 < d by omega)
  rw [Nat.add_mul, Nat.one_mul] at e
  constructor
  · intro h
    exact e.2 (by omega)
  · intro h
    have := e.1 h
    omega
/-- Every d-th byte, from j on. -/
def part (l : List UInt8) (j d : Nat) : List UInt8 := Gal.coefs (fun k => Gal.co l (j + k * d)) (parts l.length j d)
instance (b : List UInt8) : Decidable (Code b) := inferInstanceAs (Decidable (_ ∧ _ ∧ _))
end Blk
/-- The slice at a reads as the ints zs. -/
def Ints (w : World) (a : Option Addr) (zs : List Int) : Prop := zs = [] ∨ ∃ b off, a = some ⟨b, off, none⟩ ∧ b < w.heap.size ∧ ∀ j, j < zs.length → w.cell? ⟨b, off + j, none⟩ = some (.int .i64 (zs.getD j 0))
theorem getD_at (zs : List Int) {k : Nat} (h : k < zs.length) : zs.getD k 0 = zs[k] := by simp [List.getD, List.getElem?_eq_getElem h]
theorem Ints.below {w w' : World} {a : Option Addr} {zs : List Int} (h : Ints w a zs) (hb : Below w.heap.size w w') : Ints w' a zs := by
  rcases h with h | ⟨b, off, rfl, hl, hc⟩
  · exact .inl h
  · exact .inr ⟨b, off, rfl, Nat.lt_of_lt_of_le hl hb.size, fun j hj => (hb.cell (p := ⟨b, off + j, none⟩) hl).trans (hc j hj)⟩
theorem Ints.cell {w : World} {a : Option Addr} {zs : List Int} (h : Ints w a zs) (hn : 0 < zs.length) : ∃ b off, a = some ⟨b, off, none⟩ ∧ b < w.heap.size ∧ ∀ j, j < zs.length → w.cell? ⟨b, off + j, none⟩ = some (.int .i64 (zs.getD j 0)) := by
  rcases h with rfl | h
  · simp at hn
  · exact h
set_option maxRecDepth 100000 in
theorem differ_any (a b : ByteArray) (n : Nat) (ha : a.size = n) (hb : b.size = n) (hs : n ≤ 400000) (w : World) :
    Calls Tryz.prog 35 #[.string a, .string b] w fun e w' => e = .returned (.int .i64 ((Blk.dif a.data.toList b.data.toList).length : Nat)) ∧ Below w.heap.size w w' := by
  rw [Blk.dif_cnt, ls, ha]
  have HA := Lib.hid ha
  have HB := Lib.hid hb
  have BA := Lib.hid (fun i h => byte_co a i h)
  have BB := Lib.hid (fun i h => byte_co b i h)
  have CS := Lib.hid (fun k => Blk.cnt_succ (Blk.ne2 a.data.toList b.data.toList) k)
  have CL := Lib.hid (fun k => Blk.cnt_le (Blk.ne2 a.data.toList b.data.toList) k)
  have dn0 : ∀ i, Blk.ne2 a.data.toList b.data.toList i = decide (Gal.co a.data.toList i ≠ Gal.co b.data.toList i) := fun i => rfl
  have DN := Lib.hid dn0
  clear dn0
  obtain ⟨P, hP⟩ : ∃ P, Blk.ne2 a.data.toList b.data.toList = P := ⟨_, rfl⟩
  rw [hP] at CS CL DN ⊢
  go_enter Tryz.func35, Tryz.ntmps35
  go_wp2_with fail
  clear ha hb hP
  go_loopw [5, 6] (fun c i wr => ∃ k : Nat, k ≤ n ∧ i = .int .i64 k ∧ c = .int .i64 (Blk.cnt P k : Nat) ∧ Below w.heap.size w wr) (fun _ i _ => n - (intOf i).toNat)
  case atStart => exact ⟨0, Nat.zero_le _, rfl, rfl, Below.refl _ _⟩
  case round =>
    obtain ⟨k, hk, rfl, rfl, hB⟩ := hrel
    have HW := Lib.hid hB
    have cl := CL.out k
    have cs := CS.out k
    have dn := DN.out k
    obtain ⟨c, hc⟩ : ∃ c, Blk.cnt P k = c := ⟨_, rfl⟩
    rw [hc] at cs cl ⊢
    by_cases hlt : k < n
    · have ia : k < a.size := by rw [HA.out]; exact hlt
      have ib : k < b.size := by rw [HB.out]; exact hlt
      have ba := BA.out k ia
      have bb := BB.out k ib
      obtain ⟨x, hx⟩ : ∃ x, (Gal.co a.data.toList k).toNat = x := ⟨_, rfl⟩
      obtain ⟨y, hy⟩ : ∃ y, (Gal.co b.data.toList k).toNat = y := ⟨_, rfl⟩
      rw [hx] at ba
      rw [hy] at bb
      by_cases g : x = y
      · subst g
        have e : Blk.cnt P (k + 1) = c := by
          rw [cs, dn, if_neg (by have : Gal.co a.data.toList k = Gal.co b.data.toList k := BitVec.eq_of_toNat_eq (by rw [hx, hy]); simp [this])]
          rfl
        have EC := Lib.hid e
        have x2 : ((x : Int) != (x : Int)) = false := by simp
        clear hx hy hc cs dn hB BA BB CS CL DN e
        go_wp2_with fail
        go_quiet (fail)
        go_wp2_with fail
        go_roundw
        case rel => exact ⟨k + 1, by omega, by go_num, by rw [EC.out], below_drewN HW.out _⟩
        case measure => simp [intOf]; omega
      · have e : Blk.cnt P (k + 1) = c + 1 := by
          rw [cs, dn, if_pos (by
            have : Gal.co a.data.toList k ≠ Gal.co b.data.toList k := fun q => g (by rw [← hx, ← hy, q])
            simp [this])]
        have EC := Lib.hid e
        have x2 : ((x : Int) != (y : Int)) = true := by simp; omega
        clear hx hy hc cs dn hB BA BB CS CL DN e
        go_wp2_with fail
        go_quiet (fail)
        go_wp2_with fail
        go_roundw
        case rel => exact ⟨k + 1, by omega, by go_num, by rw [EC.out]; go_num, below_drewN HW.out _⟩
        case measure => simp [intOf]; omega
    · obtain rfl : n = k := by omega
      have HC := Lib.hid hc
      have sa := HA.out
      clear hc cs dn hB BA BB CS CL DN
      go_wp2_with fail
      go_ret
      exact ⟨by rw [HC.out]; rfl, HW.out⟩
set_option maxRecDepth 100000 in
theorem part_any (s : ByteArray) (j d : Nat) (hj : j < d) (hd : d ≤ 1000) (hs : s.size ≤ 400000) (w : World) :
    Calls Tryz.prog 26 #[.string s, .int .i64 j, .int .i64 d] w fun e w' => e = .returned (.string ⟨(Blk.part s.data.toList j d).toArray⟩) ∧ Below w.heap.size w w' := by
  obtain ⟨n, hn⟩ : ∃ n, s.size = n := ⟨_, rfl⟩
  unfold Blk.part
  rw [ls]
  rw [hn] at hs ⊢
  have HN := Lib.hid hn
  have HBY := Lib.hid (fun i h => byte_co s i h)
  have HI := Lib.hid (fun k => Blk.parts_iff n j d k hj)
  obtain ⟨m, hm⟩ : ∃ m, Blk.parts n j d = m := ⟨_, rfl⟩
  rw [hm] at HI ⊢
  have HM : Hid (m ≤ n) := Lib.hid (by
    by_cases h : m ≤ n
    · exact h
    · have := (HI.out n).2 (by omega)
      have := Nat.mul_le_mul_left n (show 1 ≤ d by omega)
      omega)
  go_enter Tryz.func26, Tryz.ntmps26
  go_wp2_with fail
  clear hn hm
  go_loopw [7, 8] (fun o i wr => ∃ k : Nat, k ≤ m ∧ i = .int .i64 ((j + k * d : Nat) : Int) ∧ wr.ownsRow w.heap.size 5 1 o k (vals (fun k => Gal.co s.data.toList (j + k * d)) k) ∧ Below w.heap.size w wr) (fun o _ _ => m - slen o)
  case atStart => exact ⟨0, Nat.zero_le _, by rw [Nat.zero_mul, Nat.add_zero], World.ownsRow_nil _ _ _ _, Below.refl _ _⟩
  case round =>
    obtain ⟨k, hk, rfl, hown, hB⟩ := hrel
    have hi := HI.out k
    have hM := HM.out
    have ns := vals_succ (fun k => Gal.co s.data.toList (j + k * d)) k
    have nx : j + (k + 1) * d = j + k * d + d := by rw [Nat.add_mul, Nat.one_mul]; omega
    obtain ⟨i, hi'⟩ : ∃ i, j + k * d = i := ⟨_, rfl⟩
    rw [hi'] at hi nx ⊢
    by_cases hlt : i < n
    · have lk : k < m := hi.1 hlt
      have is : i < s.size := by rw [HN.out]; exact hlt
      have bi := HBY.out i is
      simp only [hi'] at ns
      obtain ⟨u, hu⟩ : ∃ u, (Gal.co s.data.toList i).toNat = u := ⟨_, rfl⟩
      rw [hu] at bi ns
      have NS := Lib.hid ns
      have NX := Lib.hid nx
      have SL := Lib.hid (own_slen hown)
      have HO := Lib.hid hown
      obtain ⟨i0, hi0, hz0, hz1, hz2⟩ := info_parts info_u8
      have B1 := Lib.hid (hB.alloc hB.size (.cells #[.int .u8 (u : Int)] 5))
      have km : k ≤ 400000 := by omega
      have KM := Lib.hid lk
      clear hu ns hown hB HBY hi hi' HI HM hM nx hk lk
      go_wp2_with (at_builtin; refine wpList_append_own _ rfl _ _ 41 rfl w.heap.size 5 i0 (.int .u8 0) 1 1 Tryz.underlying41 hi0 hz0 hz1 hz2 rfl (by decide) _ _ _ rfl (HO.out.alloc _) ⟨wr.heap.size, 0, none⟩ 1 1 [.int .u8 (u : Int)] rfl rfl cell_one (by simp [Value.oneCell']) (by unfold maxLen; omega) (by omega) (by have := B1.out.size; simp at this ⊢; omega) ?_; intro v' w2 hown2 hgrow _; obtain ⟨g', cap', rfl⟩ := ownsRow_succ hown2; have HO2 := Lib.hid hown2; have BW2 := Lib.hid (B1.out.grown hgrow B1.out.size (fun k e => own_block_ge HO.out e)); clear hown2 hgrow)
      go_roundw
      case rel => exact ⟨k + 1, KM.out, by rw [NX.out]; go_num, by rw [NS.out]; exact HO2.out, BW2.out⟩
      case measure => rw [SL.out]; have := KM.out; simp [slen]; omega
    · obtain rfl : k = m := by
        by_cases h : k < m
        · exact absurd (hi.2 h) hlt
        · omega
      have CV := Lib.hid (own_back hown)
      have HB := Lib.hid hB
      have sn := HN.out
      clear hown hB HBY hi ns nx hi' HI HM
      go_wp2_with (simp only [CV.out])
      go_ret
      exact ⟨rfl, HB.out⟩
set_option maxRecDepth 100000 in
theorem inside_any (a : Option Addr) (cap : Nat) (zs : List Int) (n : Nat) (hn : zs.length = n) (hl : n ≤ 1000) (p : Int) (w : World) (R : Ints w a zs) :
    Calls Tryz.prog 30 #[.slice a n cap, .int .i64 p] w fun e w' => e = .returned (.bool (decide (p ∈ zs))) ∧ w = w' := by
  by_cases n0 : n = 0
  · subst n0
    obtain rfl := List.length_eq_zero_iff.1 hn
    rw [show decide (p ∈ ([] : List Int)) = false by simp]
    clear R hn
    go_enter Tryz.func30, Tryz.ntmps30
    go_wp2_with fail
    refine wp_loop_rounds 1 ?_
    rw [rounds_succ]
    go_wp2_with fail
    go_ret
    exact ⟨rfl, rfl⟩
  · obtain ⟨b, o, rfl, l1, c1⟩ := R.cell (by omega)
    rw [hn] at c1
    have C1 := Lib.hid c1
    have YES := Lib.hid (fun k (h : k < n) (e : zs.getD k 0 = p) => (show decide (p ∈ zs) = true by
      rw [decide_eq_true_eq, ← e, getD_at zs (by omega)]
      exact List.getElem_mem _))
    have NO := Lib.hid (fun (h : ∀ k, k < n → zs.getD k 0 ≠ p) => (show decide (p ∈ zs) = false by
      rw [decide_eq_false_iff_not]
      intro hm
      obtain ⟨k, hk, e⟩ := List.getElem_of_mem hm
      exact h k (by omega) (by rw [getD_at zs hk]; exact e)))
    obtain ⟨r, hr⟩ : ∃ r, decide (p ∈ zs) = r := ⟨_, rfl⟩
    rw [hr] at YES NO ⊢
    clear c1 R hn hr
    go_enter Tryz.func30, Tryz.ntmps30
    go_wp2_with fail
    go_loop [5] (fun i => ∃ k : Nat, k ≤ n ∧ i = .int .i64 k ∧ ∀ j, j < k → zs.getD j 0 ≠ p) (fun i => n - (intOf i).toNat)
    case atStart => exact ⟨0, Nat.zero_le _, rfl, fun j hj => absurd hj (Nat.not_lt_zero _)⟩
    case round =>
      obtain ⟨k, hk, rfl, hno⟩ := hrel
      by_cases hlt : k < n
      · have q1 := C1.out k hlt
        have y := YES.out k hlt
        have HNO := Lib.hid hno
        obtain ⟨x, hx⟩ : ∃ x, zs.getD k 0 = x := ⟨_, rfl⟩
        rw [hx] at q1 y
        have HX := Lib.hid hx
        by_cases g : x = p
        · subst g
          have y' := Lib.hid (y rfl)
          have x1 : ((x : Int) == (x : Int)) = true := by simp
          clear hx hno y YES NO C1
          go_wp2_with fail
          go_ret
          exact ⟨by rw [y'.out]; rfl, rfl⟩
        · have x1 : ((x : Int) == (p : Int)) = false := by simpa using g
          have G := Lib.hid g
          clear hx hno y YES NO C1 g
          go_wp2_with fail
          go_round
          case rel => exact ⟨k + 1, by omega, by go_num, fun j hj => by
            by_cases e : j = k
            · subst e; rw [HX.out]; exact G.out
            · exact HNO.out j (by omega)⟩
          case measure => simp [intOf]; omega
      · obtain rfl : n = k := by omega
        have no := Lib.hid (NO.out hno)
        clear hno YES NO C1
        go_wp2_with fail
        go_ret
        exact ⟨by rw [no.out]; rfl, rfl⟩
theorem whole_any (b : ByteArray) (hb : b.size ≤ 400000) (w : World) :
    Calls Tryz.prog 54 #[.string b] w fun e w' => e = .returned (.bool (decide (Blk.Code b.data.toList))) ∧ Below w.heap.size w w' := by
  obtain ⟨n, hn⟩ : ∃ n, b.size = n := ⟨_, rfl⟩
  have B0 := Lib.hid (Below.refl w.heap.size w)
  by_cases g : 9 ≤ n ∧ n ≤ 231
  · obtain ⟨g1, g2⟩ := g
    have C := Lib.hid (fun w => rencode_any (b.extract 0 (n - 8)) (by rw [ByteArray.size_extract]; omega) (by rw [ByteArray.size_extract]; omega) w)
    rw [take_bytes] at C
    have CI := Blk.code_iff b.data.toList (by rw [ls]; omega) (by rw [ls]; omega)
    rw [ls, hn] at CI
    by_cases h : Blk.enc (b.data.toList.take (n - 8)) = b.data.toList
    · rw [decide_eq_true (CI.2 h)]
      rw [h, bytes_self] at C
      have q1 : (b == b) = true := by show (b.data == b.data) = true; simp
      clear CI h
      go_enter Tryz.func54, Tryz.ntmps54
      go_wp2_with fail
      (with_reducible refine (C.out _).mono ?_)
      rintro e w1 ⟨rfl, hB⟩
      have HB := Lib.hid hB
      clear hB
      go_wp2_with fail
      go_ret
      exact ⟨rfl, HB.out⟩
    · rw [decide_eq_false (fun q => h (CI.1 q))]
      obtain ⟨t, ht⟩ : ∃ t : ByteArray, (⟨(Blk.enc (b.data.toList.take (n - 8))).toArray⟩ : ByteArray) = t := ⟨_, rfl⟩
      rw [ht] at C
      have ne : t ≠ b := by
        intro q
        exact h (congrArg (fun q : ByteArray => q.data.toList) (ht.trans q))
      have q1 := beq_no ne
      have q2 : (t.toList == b.toList) = false := by rw [← beq_toListBytes, q1]
      clear CI h ne ht
      go_enter Tryz.func54, Tryz.ntmps54
      go_wp2_with fail
      (with_reducible refine (C.out _).mono ?_)
      rintro e w1 ⟨rfl, hB⟩
      have HB := Lib.hid hB
      clear hB
      go_wp2_with fail
      go_ret
      exact ⟨rfl, HB.out⟩
  · rw [decide_eq_false (fun q => g (by have h1 := q.1; have h2 := q.2.1; rw [ls] at h1 h2; omega))]
    by_cases g1 : n ≤ 8
    · clear g
      go_enter Tryz.func54, Tryz.ntmps54
      go_wp2_with fail
      go_ret
      exact ⟨rfl, B0.out⟩
    · have g2 : 231 < n := by omega
      clear g
      go_enter Tryz.func54, Tryz.ntmps54
      go_wp2_with fail
      go_ret
      exact ⟨rfl, B0.out⟩
end Go.Proofs.YtlpjhmafplljaaaGreatDoor
