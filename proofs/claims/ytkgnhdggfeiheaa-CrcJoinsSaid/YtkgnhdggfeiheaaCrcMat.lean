/- The contracts of crc's zeroByte, image, product, zeros over this program. -/
import Derived.Test.YtkgnhdggfeiheaaCrcNext
import Derived.RangeFuncBox
namespace Go.Proofs.Ytkgnhdggfeiheaa
open Go.RowKit
set_option linter.unusedVariables false

/-- The slice at a reads as n numbers. -/
def Reads (k : IntKind) (w : World) (a : Option Addr) (n : Nat) (f : Nat → Nat) : Prop := ∃ b, a = some ⟨b, 0, none⟩ ∧ b < w.heap.size ∧ ∀ j, j < n → w.cell? ⟨b, j, none⟩ = some (.int k (f j : Nat))
theorem Reads.below {k : IntKind} {w w' : World} {a : Option Addr} {n : Nat} {f : Nat → Nat} (h : Reads k w a n f) (hb : Below w.heap.size w w') : Reads k w' a n f := by
  obtain ⟨b, rfl, hl, hc⟩ := h
  exact ⟨b, rfl, Nat.lt_of_lt_of_le hl hb.size, fun j hj => (hb.cell (p := ⟨b, j, none⟩) hl).trans (hc j hj)⟩
theorem own_block_ge {w : World} {base e size n g : Nat} {v : Value} {xs : List Value} (h : w.ownsRow base e size v n xs) (hg : v.ownBlock = some g) : base ≤ g := by
  rcases h.2 with ⟨rfl, _⟩ | ⟨g', c, _, rfl, hb, _⟩
  · cases hg
  · cases hg; exact hb
theorem add_addr (b off j : Nat) : (⟨b, off, none⟩ : Addr).add j = ⟨b, off + j, none⟩ := by unfold Addr.add; split <;> simp_all
theorem addr_off {b o b' o' : Nat} (h : o ≠ o') : (⟨b, o, none⟩ : Addr) ≠ ⟨b', o', none⟩ := fun e => h (congrArg Addr.off e)
theorem cell_new_l (w : World) (v : Value) (t : TypeId) : (w.alloc (.cells #[v] t)).cell? ⟨w.heap.size, 0, none⟩ = some v ∧ (w.alloc (.cells #[v] t)).frozen? ⟨w.heap.size, 0, none⟩ = false := by
  constructor <;> go_simp
theorem cell_one {w : World} {v : Value} {t : TypeId} : ∀ j u, [v][j]? = some u → (w.alloc (.cells #[v] t)).cell? ((⟨w.heap.size, 0, none⟩ : Addr).add j) = some u := by
  intro j u hu
  have hj : j < 1 := by
    have := (List.getElem?_eq_some_iff.1 hu).1
    simpa using this
  obtain rfl : j = 0 := by omega
  rw [add_addr]
  have := (cell_new_l w v t).1
  simp at hu
  subst hu
  exact this
def slen : Value → Nat
  | .slice _ n _ => n
  | _ => 0
theorem own_slen {w : World} {base e n : Nat} {v : Value} {xs : List Value} (h : w.ownsRow base e 1 v n xs) : slen v = n := by
  rcases h.2 with ⟨rfl, rfl⟩ | ⟨_, _, _, rfl, _⟩ <;> rfl
def nlist (k : IntKind) (f : Nat → Nat) (n : Nat) : List Value := (List.range n).map (fun j => .int k (f j : Nat))
theorem nlist_succ (k : IntKind) (f : Nat → Nat) (n : Nat) : nlist k f (n + 1) = nlist k f n ++ [.int k (f n : Nat)] := by simp [nlist, List.range_succ]
theorem reads_own {k : IntKind} {w : World} {base e : Nat} {v : Value} {n : Nat} {f : Nat → Nat} (hn : n ≠ 0) (h : w.ownsRow base e 1 v n (nlist k f n)) : ∃ a cap, v = .slice a n cap ∧ Reads k w a n f := by
  obtain ⟨hl, h⟩ := h
  rcases h with ⟨hv, h0⟩ | ⟨g, c, cur, hv, hb, hg, hnc, hm, hsz, ht⟩
  · exact absurd h0 hn
  · refine ⟨_, c, hv, g, rfl, (Array.getElem?_eq_some_iff.1 hg).1, fun j hj => ?_⟩
    have e1 : w.cell? ⟨g, j, none⟩ = cur[j]? := by
      unfold World.cell?
      rw [hg]
      simp
    have e2 : (cur.toList.take (n * 1))[j]? = cur[j]? := by
      rw [List.getElem?_take_of_lt (by omega)]
      simp
    rw [e1, ← e2, ht]
    simp [nlist, hj]
/-- The block b holds m numbers, and they may be written. -/
def NumsK (k : IntKind) (W : World) (b m : Nat) (f : Nat → Nat) : Prop := ∀ j, j < m → W.cell? ⟨b, j, none⟩ = some (.int k (f j : Nat)) ∧ W.frozen? ⟨b, j, none⟩ = false
theorem NumsK.set {k : IntKind} {W : World} {b m : Nat} {f g : Nat → Nat} (h : NumsK k W b m f) (i x : Nat) (hk : i < m) (hx : g i = x) (hg : ∀ j, j < m → j ≠ i → g j = f j) : NumsK k (W.setCell ⟨b, i, none⟩ (.int k x)) b m g := by
  intro j hj
  obtain ⟨h1, h2⟩ := h j hj
  refine ⟨?_, by rw [World.frozen?_setCell]; exact h2⟩
  by_cases e : j = i
  · subst e
    rw [World.cell?_setCell_same' _ _ _ (by rw [h1]; rfl), hx]
  · rw [World.cell?_setCell_other (h := addr_off (fun x => e x.symm)), hg j hj e]
    exact h1
theorem NumsK.below {k : IntKind} {W W' : World} {b m : Nat} {f : Nat → Nat} (h : NumsK k W b m f) (hb : Below W.heap.size W W') (hl : b < W.heap.size) : NumsK k W' b m f := fun j hj =>
  ⟨(hb.cell (p := ⟨b, j, none⟩) hl).trans (h j hj).1, (hb.frozen (p := ⟨b, j, none⟩) hl).trans (h j hj).2⟩
theorem nums_made {k : IntKind} {w : World} {base b e n cap : Nat} {zs : List Value} (h : w.ownsRow base e 1 (.slice (some ⟨b, 0, none⟩) n cap) n zs) (hz : ∀ j, j < n → zs[j]? = some (.int k 0)) : NumsK k w b n (fun _ => 0) ∧ b < w.heap.size := by
  obtain ⟨hl, h⟩ := h
  rcases h with ⟨hv, _⟩ | ⟨g, c, cur, hv, hb, hg, hnc, hm, hsz, ht⟩
  · simp at hv
  · simp only [Value.slice.injEq, Option.some.injEq, Addr.mk.injEq] at hv
    obtain ⟨⟨rfl, _, _⟩, _, rfl⟩ := hv
    refine ⟨fun j hj => ?_, (Array.getElem?_eq_some_iff.1 hg).1⟩
    have e1 : w.cell? ⟨b, j, none⟩ = cur[j]? := by
      unfold World.cell?
      rw [hg]
      simp
    have e2 : (cur.toList.take (n * 1))[j]? = cur[j]? := by
      rw [List.getElem?_take_of_lt (by omega)]
      simp
    refine ⟨?_, ?_⟩
    · rw [e1, ← e2, ht, hz j hj]
      rfl
    · unfold World.frozen?
      rw [hg]
      simp
theorem made_zero (k : IntKind) (n j : Nat) (h : j < n) : (madeCells (Value.int k 0).cells (n * 1)).toList[j]? = some (.int k 0) := by
  unfold madeCells
  simp [Value.cells, h, Nat.mod_one]
theorem unit_shl {W : Nat} (k : Nat) : (Crc.unit k : BitVec W) <<< 1 = Crc.unit (k + 1) := by
  unfold Crc.unit
  rw [← BitVec.shiftLeft_add]
theorem and1_16 (x i : Nat) (h : x < 65536) : bits .and .u16 ((x : Int) / 2 ^ i) 1 = ((x / 2 ^ i % 2 : Nat) : Int) := by
  have d : x / 2 ^ i ≤ x := Nat.div_le_self _ _
  have e : ((x : Int) / 2 ^ i) = ((x / 2 ^ i : Nat) : Int) := by rw [Int.natCast_ediv]; simp
  rw [e]
  have := u16_and_nat (x / 2 ^ i) 1 (by omega) (by omega)
  rw [Nat.and_one_is_mod] at this
  exact this
theorem and1_32 (x i : Nat) (h : x < 4294967296) : bits .and .u32 ((x : Int) / 2 ^ i) 1 = ((x / 2 ^ i % 2 : Nat) : Int) := by
  have d : x / 2 ^ i ≤ x := Nat.div_le_self _ _
  have e : ((x : Int) / 2 ^ i) = ((x / 2 ^ i : Nat) : Int) := by rw [Int.natCast_ediv]; simp
  rw [e]
  have := u32_and_nat (x / 2 ^ i) 1 (by omega) (by omega)
  rw [Nat.and_one_is_mod] at this
  exact this
theorem bit_div {W : Nat} (r : BitVec W) (i : Nat) : r.getLsbD i = decide (r.toNat / 2 ^ i % 2 = 1) := Nat.testBit_eq_decide_div_mod_eq
theorem image16_any (a : Option Addr) (cap : Nat) (c : Nat → BitVec 16) (r : BitVec 16) (w : World) (h : Reads .u16 w a 16 (fun j => (c j).toNat)) :
    Calls Try.prog 42 #[.slice a 16 cap, .int .u16 (r.toNat : Nat)] w fun e w' => e = .returned (.int .u16 ((Crc.img c r 16).toNat : Nat)) ∧ w = w' := by
  obtain ⟨b, rfl, hlb, hc⟩ := h
  have HC := Lib.hid hc
  obtain ⟨X, hX⟩ : ∃ X, r.toNat = X := ⟨_, rfl⟩
  have hx : X < 65536 := by rw [← hX]; exact r.isLt
  rw [hX]
  have HX := Lib.hid hX
  clear hc hX
  go_enter Try.func42, Try.ntmps42
  go_wp2_with fail
  go_loop [5, 11] (fun s i => ∃ k : Nat, k ≤ 16 ∧ i = .int .i64 k ∧ s = .int .u16 ((Crc.img c r k).toNat : Nat)) (fun _ i => 16 - (intOf i).toNat)
  case atStart => exact ⟨0, Nat.zero_le _, rfl, rfl⟩
  case round =>
    obtain ⟨k, hk, rfl, rfl⟩ := hrel
    by_cases hlt : k < 16
    · have ck := HC.out k hlt
      have ab := and1_16 X k hx
      have bd := bit_div r k
      rw [HX.out] at bd
      have S : Crc.img c r (k + 1) = if r.getLsbD k then Crc.img c r k ^^^ c k else Crc.img c r k := rfl
      rw [bd] at S
      obtain ⟨u, hu⟩ : ∃ u, Crc.img c r k = u := ⟨_, rfl⟩
      rw [hu] at S ⊢
      have ex := xor16 u (c k)
      obtain ⟨ckn, hckn⟩ : ∃ u, c k = u := ⟨_, rfl⟩
      rw [hckn] at S ck ex
      obtain ⟨t, ht⟩ : ∃ t, X / 2 ^ k % 2 = t := ⟨_, rfl⟩
      rw [ht] at S ab
      by_cases g : t = 1
      · subst g
        rw [if_pos (by simp)] at S
        rw [← S] at ex
        obtain ⟨z, hz⟩ : ∃ u, Crc.img c r (k + 1) = u := ⟨_, rfl⟩
        rw [hz] at ex
        have HZ := Lib.hid hz
        rw [show ((1 : Nat) : Int) = 1 from rfl] at ab
        clear S hu hckn hz bd ht hx
        go_wp2_with fail
        go_round
        case rel => exact ⟨k + 1, by omega, by go_num, by rw [HZ.out]⟩
        case measure => simp [intOf]; omega
      · rw [if_neg (by simpa using g)] at S
        have t0 : t = 0 := by omega
        subst t0
        rw [show ((0 : Nat) : Int) = 0 from rfl] at ab
        have HZ := Lib.hid S
        clear S hu hckn bd ht ex hx g
        go_wp2_with fail
        go_round
        case rel => exact ⟨k + 1, by omega, by go_num, by rw [HZ.out]⟩
        case measure => simp [intOf]; omega
    · obtain rfl : k = 16 := by omega
      go_wp2_with fail
      go_ret
      exact ⟨rfl, rfl⟩
theorem info_u16 : (Try.prog.info? 22).map (fun i => (i.zero, i.size, i.bytes)) = some (some (.int .u16 0), 1, 2) := by kernel_rfl
theorem unit16 : ∀ k, k ≤ 16 → ((Crc.unit k : BitVec 16).toNat = 0 ↔ k = 16) := by decide +kernel
/-- What makes a matrix of the map B returns. -/
def Mat16 (B : BitVec 16 → BitVec 16) (w : World) (e : Ending) (w' : World) : Prop := ∃ a cap, e = .returned (.slice a 16 cap) ∧ Reads .u16 w' a 16 (fun j => (B (Crc.unit j)).toNat) ∧ Below w.heap.size w w'
theorem zeroByte16_any (w : World) :
    Calls Try.prog 41 #[.func (.func 29) #[] #[]] w (Mat16 Crc.Z16 w) := by
  have AZ := Lib.hid (fun r w => afterZero16_any r w)
  have U := Lib.hid unit16
  go_enter Try.func41, Try.ntmps41
  go_wp2_with fail
  go_loopw [3, 4] (fun m x wr => ∃ k : Nat, k ≤ 16 ∧ x = .int .u16 ((Crc.unit k : BitVec 16).toNat : Nat) ∧ wr.ownsRow w.heap.size 22 1 m k (nlist .u16 (fun j => (Crc.Z16 (Crc.unit j)).toNat) k) ∧ Below w.heap.size w wr) (fun m _ _ => 16 - slen m)
  case atStart => exact ⟨0, Nat.zero_le _, rfl, World.ownsRow_nil _ _ _ _, Below.refl _ _⟩
  case round =>
    obtain ⟨k, hk, rfl, hown, hB⟩ := hrel
    have u0 := U.out k hk
    by_cases hlt : k < 16
    · have C := Lib.hid (AZ.out (Crc.unit k))
      have sh := shl16 (Crc.unit k) 1
      rw [unit_shl] at sh
      have ns := nlist_succ .u16 (fun j => (Crc.Z16 (Crc.unit j)).toNat) k
      obtain ⟨X, hX⟩ : ∃ X, (Crc.unit k : BitVec 16).toNat = X := ⟨_, rfl⟩
      obtain ⟨X', hX'⟩ : ∃ X, (Crc.unit (k + 1) : BitVec 16).toNat = X := ⟨_, rfl⟩
      obtain ⟨u, hu⟩ : ∃ X, (Crc.Z16 (Crc.unit k)).toNat = X := ⟨_, rfl⟩
      rw [hX] at sh u0 C ⊢
      rw [hX'] at sh
      rw [hu] at C ns
      have sh2 : IntKind.u16.wrap ((X : Int) * 2) = (X' : Int) := sh
      have nz : ((X : Int) != 0) = true := by simp; omega
      have HX' := Lib.hid hX'
      have NS := Lib.hid ns
      have SL := Lib.hid (own_slen hown)
      have HO := Lib.hid hown
      have HB := Lib.hid hB
      obtain ⟨i0, hi, hz0, hz1, hz2⟩ := info_parts info_u16
      have B1 := Lib.hid (hB.alloc hB.size (.cells #[.int .u16 (u : Int)] 22))
      clear sh hX hX' hu ns hown hB u0 U AZ
      go_wp2_with fail
      (with_reducible refine (C.out _).mono ?_)
      rintro e w' ⟨rfl, rfl⟩
      go_wp2_with (at_builtin; refine wpList_append_own _ rfl _ _ 63 rfl w.heap.size 22 i0 (.int .u16 0) 1 2 Try.underlying63 hi hz0 hz1 hz2 rfl (by decide) _ _ _ rfl (HO.out.alloc _) ⟨wr.heap.size, 0, none⟩ 1 1 [.int .u16 (u : Int)] rfl rfl cell_one (by simp [Value.oneCell']) (by unfold maxLen; omega) (by omega) (by have := HB.out.size; simp; omega) ?_; intro v' w2 hown2 hgrow _; obtain ⟨g', cap', rfl⟩ := ownsRow_succ hown2; have HO2 := Lib.hid hown2; have BW2 := Lib.hid (B1.out.grown hgrow B1.out.size (fun k e => own_block_ge HO.out e)); clear hown2 hgrow)
      go_roundw
      case rel => exact ⟨k + 1, by omega, by rw [HX'.out], by rw [NS.out]; exact HO2.out, BW2.out⟩
      case measure => rw [SL.out]; simp [slen]; omega
    · obtain rfl : k = 16 := by omega
      have e0 : (Crc.unit 16 : BitVec 16).toNat = 0 := (U.out 16 (Nat.le_refl _)).2 rfl
      rw [e0]
      obtain ⟨a, cap, rfl, hr⟩ := reads_own (by omega) hown
      have Q := Lib.hid (show Mat16 Crc.Z16 w (.returned (.slice a 16 cap)) wr from ⟨a, cap, rfl, hr, hB⟩)
      clear hown hB hr e0 u0 U AZ
      go_wp2_with fail
      go_ret
      exact Q.out
theorem product16_any (A B : BitVec 16 → BitVec 16) (hA : Crc.Lin A) (a1 a2 : Option Addr) (cap1 cap2 : Nat) (w : World) (h1 : Reads .u16 w a1 16 (fun j => (A (Crc.unit j)).toNat)) (h2 : Reads .u16 w a2 16 (fun j => (B (Crc.unit j)).toNat)) :
    Calls Try.prog 43 #[.slice a1 16 cap1, .slice a2 16 cap2] w (Mat16 (fun x => A (B x)) w) := by
  have IM := Lib.hid (fun r wr (hb : Below w.heap.size w wr) => image16_any a1 cap1 (fun j => A (Crc.unit j)) r wr (h1.below hb))
  obtain ⟨b2, rfl, l2, c2⟩ := h2
  have C2 := Lib.hid c2
  obtain ⟨i0, hi, hz0, hz1, hz2⟩ := info_parts info_u16
  clear c2
  go_enter Try.func43, Try.ntmps43
  go_wp2_with (at_make; refine wpList_make_full _ rfl _ _ 63 rfl w.heap.size 22 i0 (.int .u16 0) 1 Try.underlying63 hi hz0 hz1 .i64 .i64 _ _ 16 rfl rfl rfl rfl (by rw [hz2]; omega) (by unfold maxLen; omega) (Nat.le_refl _) ?_; intro w2 hown hgrow)
  obtain ⟨hnu, hBf⟩ := nums_made hown (fun j hj => made_zero .u16 16 j hj)
  have hb2 : Below w.heap.size w w2 := (Below.refl _ _).grown hgrow (Nat.le_refl _) (fun k e => by cases e)
  have HNU := Lib.hid hnu
  have HB2 := Lib.hid hb2
  clear hb2 hown hgrow hi hz0 hz1 hz2 hnu
  go_loopw [13] (fun i wr => ∃ k : Nat, k ≤ 16 ∧ i = .int .i64 k ∧ NumsK .u16 wr w.heap.size 16 (fun j => if j < k then (A (B (Crc.unit j))).toNat else 0) ∧ Below w.heap.size w wr ∧ w.heap.size < wr.heap.size) (fun i _ => 16 - (intOf i).toNat)
  case atStart => exact ⟨0, Nat.zero_le _, rfl, HNU.out, HB2.out, hBf⟩
  case round =>
    obtain ⟨k, hk, rfl, hnu, hB, hBs⟩ := hrel
    by_cases hlt : k < 16
    · have q3 := (hB.cell (p := ⟨b2, k, none⟩) l2).trans (C2.out k hlt)
      obtain ⟨n1, n2⟩ := hnu k hlt
      have I := Lib.hid (IM.out (B (Crc.unit k)) wr hB)
      rw [Crc.img_eq hA] at I
      obtain ⟨x, hx⟩ : ∃ x, (B (Crc.unit k)).toNat = x := ⟨_, rfl⟩
      obtain ⟨y, hy⟩ : ∃ x, (A (B (Crc.unit k))).toNat = x := ⟨_, rfl⟩
      rw [hx, hy] at I
      rw [hx] at q3
      have NN := Lib.hid (hnu.set (g := fun j => if j < k + 1 then (A (B (Crc.unit j))).toNat else 0) k y hlt (by rw [if_pos (by omega)]; exact hy) (fun j hj hjk => by
        by_cases e : j < k
        · rw [if_pos e, if_pos (by omega)]
        · rw [if_neg e, if_neg (by omega)]))
      have BB := Lib.hid (hB.setCell (p := ⟨w.heap.size, k, none⟩) (Nat.le_refl _) (.int .u16 (y : Nat)))
      have HBS := Lib.hid (show w.heap.size < (wr.setCell ⟨w.heap.size, k, none⟩ (.int .u16 (y : Nat))).heap.size by rw [World.size_setCell]; exact hBs)
      clear hnu hB hx hy IM
      go_wp2_with fail
      (with_reducible refine I.out.mono ?_)
      rintro e w' ⟨rfl, rfl⟩
      go_wp2_with fail
      go_roundw
      case rel => exact ⟨k + 1, by omega, by go_num, NN.out, BB.out, HBS.out⟩
      case measure => simp [intOf]; omega
    · obtain rfl : k = 16 := by omega
      have Q := Lib.hid (show Mat16 (fun x => A (B x)) w (.returned (.slice (some ⟨w.heap.size, 0, none⟩) 16 16)) wr from ⟨_, _, rfl, ⟨_, rfl, hBs, fun j hj => by have h := (hnu j hj).1; simp only [if_pos hj] at h; exact h⟩, hB⟩)
      clear hnu hB
      go_wp2_with fail
      go_ret
      exact Q.out
theorem zeros16_any (r : BitVec 16) (n : Nat) (hn : n ≤ 1073741824) (w : World) :
    Calls Try.prog 35 #[.func (.func 29) #[] #[], .int .u16 (r.toNat : Nat), .int .i64 n] w fun e w' => e = .returned (.int .u16 ((Crc.it Crc.Z16 n r).toNat : Nat)) ∧ Below w.heap.size w w' := by
  have ZB := Lib.hid (zeroByte16_any w)
  go_enter Try.func35, Try.ntmps35
  go_wp2_with fail
  (with_reducible refine ZB.out.mono ?_)
  rintro e w1 ⟨a, cap, rfl, hR, hB⟩
  have HR := Lib.hid hR
  have HB := Lib.hid hB
  clear hR hB ZB
  go_wp2_with fail
  go_loopw [1, 2, 7] (fun x i m wr => ∃ (B : BitVec 16 → BitVec 16) (q : Nat) (R : BitVec 16) (a : Option Addr) (cap : Nat), Crc.Lin B ∧ q ≤ 1073741824 ∧ i = .int .i64 q ∧ x = .int .u16 (R.toNat : Nat) ∧ m = .slice a 16 cap ∧ Reads .u16 wr a 16 (fun j => (B (Crc.unit j)).toNat) ∧ Crc.it B q R = Crc.it Crc.Z16 n r ∧ Below w.heap.size w wr) (fun _ i _ _ => (intOf i).toNat)
  case atStart => exact ⟨Crc.Z16, n, r, a, cap, Crc.linZ16, hn, rfl, rfl, rfl, HR.out, rfl, HB.out⟩
  case round =>
    obtain ⟨B, q, R, a, cap, hL, hq, rfl, rfl, rfl, hR, hI, hB⟩ := hrel
    by_cases h0 : q = 0
    · subst h0
      have HI := Lib.hid (show R = _ from hI)
      have HB2 := Lib.hid hB
      clear hI hB hL hR
      go_wp2_with fail
      go_ret
      exact ⟨by rw [← HI.out]; rfl, HB2.out⟩
    · have q0 : (0 : Int) < (q : Int) := by omega
      have IM := Lib.hid (image16_any a cap (fun j => B (Crc.unit j)) R wr hR)
      rw [Crc.img_eq hL] at IM
      have PR := Lib.hid (product16_any B B hL a a cap cap wr hR hR)
      have st := Crc.it_half B q R
      have HB2 := Lib.hid hB
      have HL := Lib.hid (hL.comp hL)
      obtain ⟨q', hq'⟩ : ∃ q', q / 2 = q' := ⟨_, rfl⟩
      rw [hq', hI] at st
      have d1 : (q : Int).tdiv 2 = (q' : Int) := by rw [Int.tdiv_eq_ediv_of_nonneg (by omega)]; omega
      have HQ := Lib.hid hq'
      have hq2 : q' ≤ 1073741824 := by omega
      by_cases g : q % 2 = 1
      · rw [if_pos g] at st
        have ST := Lib.hid st
        have d2 : (q : Int).tmod 2 = 1 := by rw [Int.tmod_eq_emod_of_nonneg (by omega)]; omega
        obtain ⟨BR, hBR⟩ : ∃ x, B R = x := ⟨_, rfl⟩
        rw [hBR] at IM ST
        clear hI hB hL hR st hBR hq' g
        go_wp2_with fail
        (with_reducible refine IM.out.mono ?_)
        rintro e w' ⟨rfl, rfl⟩
        go_wp2_with fail
        (with_reducible refine PR.out.mono ?_)
        rintro e w2 ⟨a2, cap2, rfl, hR2, hB2⟩
        have R2 := Lib.hid hR2
        have BB2 := Lib.hid (bt HB2.out hB2)
        clear hR2 hB2
        go_wp2_with fail
        go_roundw
        case rel => exact ⟨_, q', BR, a2, cap2, HL.out, by omega, rfl, rfl, rfl, R2.out, ST.out, BB2.out⟩
        case measure => have := HQ.out; simp [intOf]; omega
      · rw [if_neg g] at st
        have ST := Lib.hid st
        have d2 : (q : Int).tmod 2 = 0 := by rw [Int.tmod_eq_emod_of_nonneg (by omega)]; omega
        clear hI hB hL hR st hq' g IM
        go_wp2_with fail
        (with_reducible refine PR.out.mono ?_)
        rintro e w2 ⟨a2, cap2, rfl, hR2, hB2⟩
        have R2 := Lib.hid hR2
        have BB2 := Lib.hid (bt HB2.out hB2)
        clear hR2 hB2
        go_wp2_with fail
        go_roundw
        case rel => exact ⟨_, q', R, a2, cap2, HL.out, by omega, rfl, rfl, rfl, R2.out, ST.out, BB2.out⟩
        case measure => have := HQ.out; simp [intOf]; omega
theorem image32_any (a : Option Addr) (cap : Nat) (c : Nat → BitVec 32) (r : BitVec 32) (w : World) (h : Reads .u32 w a 32 (fun j => (c j).toNat)) :
    Calls Try.prog 46 #[.slice a 32 cap, .int .u32 (r.toNat : Nat)] w fun e w' => e = .returned (.int .u32 ((Crc.img c r 32).toNat : Nat)) ∧ w = w' := by
  obtain ⟨b, rfl, hlb, hc⟩ := h
  have HC := Lib.hid hc
  obtain ⟨X, hX⟩ : ∃ X, r.toNat = X := ⟨_, rfl⟩
  have hx : X < 4294967296 := by rw [← hX]; exact r.isLt
  rw [hX]
  have HX := Lib.hid hX
  clear hc hX
  go_enter Try.func46, Try.ntmps46
  go_wp2_with fail
  go_loop [5, 11] (fun s i => ∃ k : Nat, k ≤ 32 ∧ i = .int .i64 k ∧ s = .int .u32 ((Crc.img c r k).toNat : Nat)) (fun _ i => 32 - (intOf i).toNat)
  case atStart => exact ⟨0, Nat.zero_le _, rfl, rfl⟩
  case round =>
    obtain ⟨k, hk, rfl, rfl⟩ := hrel
    by_cases hlt : k < 32
    · have ck := HC.out k hlt
      have ab := and1_32 X k hx
      have bd := bit_div r k
      rw [HX.out] at bd
      have S : Crc.img c r (k + 1) = if r.getLsbD k then Crc.img c r k ^^^ c k else Crc.img c r k := rfl
      rw [bd] at S
      obtain ⟨u, hu⟩ : ∃ u, Crc.img c r k = u := ⟨_, rfl⟩
      rw [hu] at S ⊢
      have ex := xor32 u (c k)
      obtain ⟨ckn, hckn⟩ : ∃ u, c k = u := ⟨_, rfl⟩
      rw [hckn] at S ck ex
      obtain ⟨t, ht⟩ : ∃ t, X / 2 ^ k % 2 = t := ⟨_, rfl⟩
      rw [ht] at S ab
      by_cases g : t = 1
      · subst g
        rw [if_pos (by simp)] at S
        rw [← S] at ex
        obtain ⟨z, hz⟩ : ∃ u, Crc.img c r (k + 1) = u := ⟨_, rfl⟩
        rw [hz] at ex
        have HZ := Lib.hid hz
        rw [show ((1 : Nat) : Int) = 1 from rfl] at ab
        clear S hu hckn hz bd ht hx
        go_wp2_with fail
        go_round
        case rel => exact ⟨k + 1, by omega, by go_num, by rw [HZ.out]⟩
        case measure => simp [intOf]; omega
      · rw [if_neg (by simpa using g)] at S
        have t0 : t = 0 := by omega
        subst t0
        rw [show ((0 : Nat) : Int) = 0 from rfl] at ab
        have HZ := Lib.hid S
        clear S hu hckn bd ht ex hx g
        go_wp2_with fail
        go_round
        case rel => exact ⟨k + 1, by omega, by go_num, by rw [HZ.out]⟩
        case measure => simp [intOf]; omega
    · obtain rfl : k = 32 := by omega
      go_wp2_with fail
      go_ret
      exact ⟨rfl, rfl⟩
theorem info_u32 : (Try.prog.info? 23).map (fun i => (i.zero, i.size, i.bytes)) = some (some (.int .u32 0), 1, 4) := by kernel_rfl
theorem unit32 : ∀ k, k ≤ 32 → ((Crc.unit k : BitVec 32).toNat = 0 ↔ k = 32) := by decide +kernel
/-- What makes a matrix of the map B returns. -/
def Mat32 (B : BitVec 32 → BitVec 32) (w : World) (e : Ending) (w' : World) : Prop := ∃ a cap, e = .returned (.slice a 32 cap) ∧ Reads .u32 w' a 32 (fun j => (B (Crc.unit j)).toNat) ∧ Below w.heap.size w w'
theorem zeroByte32_any (w : World) :
    Calls Try.prog 45 #[.func (.func 32) #[] #[]] w (Mat32 Crc.Z32 w) := by
  have AZ := Lib.hid (fun r w => afterZero32_any r w)
  have U := Lib.hid unit32
  go_enter Try.func45, Try.ntmps45
  go_wp2_with fail
  go_loopw [3, 4] (fun m x wr => ∃ k : Nat, k ≤ 32 ∧ x = .int .u32 ((Crc.unit k : BitVec 32).toNat : Nat) ∧ wr.ownsRow w.heap.size 23 1 m k (nlist .u32 (fun j => (Crc.Z32 (Crc.unit j)).toNat) k) ∧ Below w.heap.size w wr) (fun m _ _ => 32 - slen m)
  case atStart => exact ⟨0, Nat.zero_le _, rfl, World.ownsRow_nil _ _ _ _, Below.refl _ _⟩
  case round =>
    obtain ⟨k, hk, rfl, hown, hB⟩ := hrel
    have u0 := U.out k hk
    by_cases hlt : k < 32
    · have C := Lib.hid (AZ.out (Crc.unit k))
      have sh := shl32 (Crc.unit k) 1
      rw [unit_shl] at sh
      have ns := nlist_succ .u32 (fun j => (Crc.Z32 (Crc.unit j)).toNat) k
      obtain ⟨X, hX⟩ : ∃ X, (Crc.unit k : BitVec 32).toNat = X := ⟨_, rfl⟩
      obtain ⟨X', hX'⟩ : ∃ X, (Crc.unit (k + 1) : BitVec 32).toNat = X := ⟨_, rfl⟩
      obtain ⟨u, hu⟩ : ∃ X, (Crc.Z32 (Crc.unit k)).toNat = X := ⟨_, rfl⟩
      rw [hX] at sh u0 C ⊢
      rw [hX'] at sh
      rw [hu] at C ns
      have sh2 : IntKind.u32.wrap ((X : Int) * 2) = (X' : Int) := sh
      have nz : ((X : Int) != 0) = true := by simp; omega
      have HX' := Lib.hid hX'
      have NS := Lib.hid ns
      have SL := Lib.hid (own_slen hown)
      have HO := Lib.hid hown
      have HB := Lib.hid hB
      obtain ⟨i0, hi, hz0, hz1, hz2⟩ := info_parts info_u32
      have B1 := Lib.hid (hB.alloc hB.size (.cells #[.int .u32 (u : Int)] 23))
      clear sh hX hX' hu ns hown hB u0 U AZ
      go_wp2_with fail
      (with_reducible refine (C.out _).mono ?_)
      rintro e w' ⟨rfl, rfl⟩
      go_wp2_with (at_builtin; refine wpList_append_own _ rfl _ _ 70 rfl w.heap.size 23 i0 (.int .u32 0) 1 4 Try.underlying70 hi hz0 hz1 hz2 rfl (by decide) _ _ _ rfl (HO.out.alloc _) ⟨wr.heap.size, 0, none⟩ 1 1 [.int .u32 (u : Int)] rfl rfl cell_one (by simp [Value.oneCell']) (by unfold maxLen; omega) (by omega) (by have := HB.out.size; simp; omega) ?_; intro v' w2 hown2 hgrow _; obtain ⟨g', cap', rfl⟩ := ownsRow_succ hown2; have HO2 := Lib.hid hown2; have BW2 := Lib.hid (B1.out.grown hgrow B1.out.size (fun k e => own_block_ge HO.out e)); clear hown2 hgrow)
      go_roundw
      case rel => exact ⟨k + 1, by omega, by rw [HX'.out], by rw [NS.out]; exact HO2.out, BW2.out⟩
      case measure => rw [SL.out]; simp [slen]; omega
    · obtain rfl : k = 32 := by omega
      have e0 : (Crc.unit 32 : BitVec 32).toNat = 0 := (U.out 32 (Nat.le_refl _)).2 rfl
      rw [e0]
      obtain ⟨a, cap, rfl, hr⟩ := reads_own (by omega) hown
      have Q := Lib.hid (show Mat32 Crc.Z32 w (.returned (.slice a 32 cap)) wr from ⟨a, cap, rfl, hr, hB⟩)
      clear hown hB hr e0 u0 U AZ
      go_wp2_with fail
      go_ret
      exact Q.out
theorem product32_any (A B : BitVec 32 → BitVec 32) (hA : Crc.Lin A) (a1 a2 : Option Addr) (cap1 cap2 : Nat) (w : World) (h1 : Reads .u32 w a1 32 (fun j => (A (Crc.unit j)).toNat)) (h2 : Reads .u32 w a2 32 (fun j => (B (Crc.unit j)).toNat)) :
    Calls Try.prog 47 #[.slice a1 32 cap1, .slice a2 32 cap2] w (Mat32 (fun x => A (B x)) w) := by
  have IM := Lib.hid (fun r wr (hb : Below w.heap.size w wr) => image32_any a1 cap1 (fun j => A (Crc.unit j)) r wr (h1.below hb))
  obtain ⟨b2, rfl, l2, c2⟩ := h2
  have C2 := Lib.hid c2
  obtain ⟨i0, hi, hz0, hz1, hz2⟩ := info_parts info_u32
  clear c2
  go_enter Try.func47, Try.ntmps47
  go_wp2_with (at_make; refine wpList_make_full _ rfl _ _ 70 rfl w.heap.size 23 i0 (.int .u32 0) 1 Try.underlying70 hi hz0 hz1 .i64 .i64 _ _ 32 rfl rfl rfl rfl (by rw [hz2]; omega) (by unfold maxLen; omega) (Nat.le_refl _) ?_; intro w2 hown hgrow)
  obtain ⟨hnu, hBf⟩ := nums_made hown (fun j hj => made_zero .u32 32 j hj)
  have hb2 : Below w.heap.size w w2 := (Below.refl _ _).grown hgrow (Nat.le_refl _) (fun k e => by cases e)
  have HNU := Lib.hid hnu
  have HB2 := Lib.hid hb2
  clear hb2 hown hgrow hi hz0 hz1 hz2 hnu
  go_loopw [13] (fun i wr => ∃ k : Nat, k ≤ 32 ∧ i = .int .i64 k ∧ NumsK .u32 wr w.heap.size 32 (fun j => if j < k then (A (B (Crc.unit j))).toNat else 0) ∧ Below w.heap.size w wr ∧ w.heap.size < wr.heap.size) (fun i _ => 32 - (intOf i).toNat)
  case atStart => exact ⟨0, Nat.zero_le _, rfl, HNU.out, HB2.out, hBf⟩
  case round =>
    obtain ⟨k, hk, rfl, hnu, hB, hBs⟩ := hrel
    by_cases hlt : k < 32
    · have q3 := (hB.cell (p := ⟨b2, k, none⟩) l2).trans (C2.out k hlt)
      obtain ⟨n1, n2⟩ := hnu k hlt
      have I := Lib.hid (IM.out (B (Crc.unit k)) wr hB)
      rw [Crc.img_eq hA] at I
      obtain ⟨x, hx⟩ : ∃ x, (B (Crc.unit k)).toNat = x := ⟨_, rfl⟩
      obtain ⟨y, hy⟩ : ∃ x, (A (B (Crc.unit k))).toNat = x := ⟨_, rfl⟩
      rw [hx, hy] at I
      rw [hx] at q3
      have NN := Lib.hid (hnu.set (g := fun j => if j < k + 1 then (A (B (Crc.unit j))).toNat else 0) k y hlt (by rw [if_pos (by omega)]; exact hy) (fun j hj hjk => by
        by_cases e : j < k
        · rw [if_pos e, if_pos (by omega)]
        · rw [if_neg e, if_neg (by omega)]))
      have BB := Lib.hid (hB.setCell (p := ⟨w.heap.size, k, none⟩) (Nat.le_refl _) (.int .u32 (y : Nat)))
      have HBS := Lib.hid (show w.heap.size < (wr.setCell ⟨w.heap.size, k, none⟩ (.int .u32 (y : Nat))).heap.size by rw [World.size_setCell]; exact hBs)
      clear hnu hB hx hy IM
      go_wp2_with fail
      (with_reducible refine I.out.mono ?_)
      rintro e w' ⟨rfl, rfl⟩
      go_wp2_with fail
      go_roundw
      case rel => exact ⟨k + 1, by omega, by go_num, NN.out, BB.out, HBS.out⟩
      case measure => simp [intOf]; omega
    · obtain rfl : k = 32 := by omega
      have Q := Lib.hid (show Mat32 (fun x => A (B x)) w (.returned (.slice (some ⟨w.heap.size, 0, none⟩) 32 32)) wr from ⟨_, _, rfl, ⟨_, rfl, hBs, fun j hj => by have h := (hnu j hj).1; simp only [if_pos hj] at h; exact h⟩, hB⟩)
      clear hnu hB
      go_wp2_with fail
      go_ret
      exact Q.out
theorem zeros32_any (r : BitVec 32) (n : Nat) (hn : n ≤ 1073741824) (w : World) :
    Calls Try.prog 37 #[.func (.func 32) #[] #[], .int .u32 (r.toNat : Nat), .int .i64 n] w fun e w' => e = .returned (.int .u32 ((Crc.it Crc.Z32 n r).toNat : Nat)) ∧ Below w.heap.size w w' := by
  have ZB := Lib.hid (zeroByte32_any w)
  go_enter Try.func37, Try.ntmps37
  go_wp2_with fail
  (with_reducible refine ZB.out.mono ?_)
  rintro e w1 ⟨a, cap, rfl, hR, hB⟩
  have HR := Lib.hid hR
  have HB := Lib.hid hB
  clear hR hB ZB
  go_wp2_with fail
  go_loopw [1, 2, 7] (fun x i m wr => ∃ (B : BitVec 32 → BitVec 32) (q : Nat) (R : BitVec 32) (a : Option Addr) (cap : Nat), Crc.Lin B ∧ q ≤ 1073741824 ∧ i = .int .i64 q ∧ x = .int .u32 (R.toNat : Nat) ∧ m = .slice a 32 cap ∧ Reads .u32 wr a 32 (fun j => (B (Crc.unit j)).toNat) ∧ Crc.it B q R = Crc.it Crc.Z32 n r ∧ Below w.heap.size w wr) (fun _ i _ _ => (intOf i).toNat)
  case atStart => exact ⟨Crc.Z32, n, r, a, cap, Crc.linZ32, hn, rfl, rfl, rfl, HR.out, rfl, HB.out⟩
  case round =>
    obtain ⟨B, q, R, a, cap, hL, hq, rfl, rfl, rfl, hR, hI, hB⟩ := hrel
    by_cases h0 : q = 0
    · subst h0
      have HI := Lib.hid (show R = _ from hI)
      have HB2 := Lib.hid hB
      clear hI hB hL hR
      go_wp2_with fail
      go_ret
      exact ⟨by rw [← HI.out]; rfl, HB2.out⟩
    · have q0 : (0 : Int) < (q : Int) := by omega
      have IM := Lib.hid (image32_any a cap (fun j => B (Crc.unit j)) R wr hR)
      rw [Crc.img_eq hL] at IM
      have PR := Lib.hid (product32_any B B hL a a cap cap wr hR hR)
      have st := Crc.it_half B q R
      have HB2 := Lib.hid hB
      have HL := Lib.hid (hL.comp hL)
      obtain ⟨q', hq'⟩ : ∃ q', q / 2 = q' := ⟨_, rfl⟩
      rw [hq', hI] at st
      have d1 : (q : Int).tdiv 2 = (q' : Int) := by rw [Int.tdiv_eq_ediv_of_nonneg (by omega)]; omega
      have HQ := Lib.hid hq'
      have hq2 : q' ≤ 1073741824 := by omega
      by_cases g : q % 2 = 1
      · rw [if_pos g] at st
        have ST := Lib.hid st
        have d2 : (q : Int).tmod 2 = 1 := by rw [Int.tmod_eq_emod_of_nonneg (by omega)]; omega
        obtain ⟨BR, hBR⟩ : ∃ x, B R = x := ⟨_, rfl⟩
        rw [hBR] at IM ST
        clear hI hB hL hR st hBR hq' g
        go_wp2_with fail
        (with_reducible refine IM.out.mono ?_)
        rintro e w' ⟨rfl, rfl⟩
        go_wp2_with fail
        (with_reducible refine PR.out.mono ?_)
        rintro e w2 ⟨a2, cap2, rfl, hR2, hB2⟩
        have R2 := Lib.hid hR2
        have BB2 := Lib.hid (bt HB2.out hB2)
        clear hR2 hB2
        go_wp2_with fail
        go_roundw
        case rel => exact ⟨_, q', BR, a2, cap2, HL.out, by omega, rfl, rfl, rfl, R2.out, ST.out, BB2.out⟩
        case measure => have := HQ.out; simp [intOf]; omega
      · rw [if_neg g] at st
        have ST := Lib.hid st
        have d2 : (q : Int).tmod 2 = 0 := by rw [Int.tmod_eq_emod_of_nonneg (by omega)]; omega
        clear hI hB hL hR st hq' g IM
        go_wp2_with fail
        (with_reducible refine PR.out.mono ?_)
        rintro e w2 ⟨a2, cap2, rfl, hR2, hB2⟩
        have R2 := Lib.hid hR2
        have BB2 := Lib.hid (bt HB2.out hB2)
        clear hR2 hB2
        go_wp2_with fail
        go_roundw
        case rel => exact ⟨_, q', R, a2, cap2, HL.out, by omega, rfl, rfl, rfl, R2.out, ST.out, BB2.out⟩
        case measure => have := HQ.out; simp [intOf]; omega
end Go.Proofs.Ytkgnhdggfeiheaa
