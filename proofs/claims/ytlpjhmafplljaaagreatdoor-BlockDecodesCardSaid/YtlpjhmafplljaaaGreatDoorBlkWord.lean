/- The contracts of block's words that are only read, newWord, arePlaces, isDepth over this program. -/
import Derived.Test.YtlpjhmafplljaaaGreatDoorBlkEnc
import Derived.Test.YtlpjhmafplljaaaGreatDoorBlkRefB
namespace Go.Proofs.YtlpjhmafplljaaaGreatDoor
open Go.RowKit
set_option linter.unusedVariables false

/-- The block b holds n truth values, and they may be written. -/
def Bools (W : World) (b n : Nat) (f : Nat → Bool) : Prop := b < W.heap.size ∧ ∀ j, j < n → W.cell? ⟨b, j, none⟩ = some (.bool (f j)) ∧ W.frozen? ⟨b, j, none⟩ = false
namespace Bools
variable {W W' : World} {b m : Nat} {f g : Nat → Bool}
theorem cell (h : Bools W b m f) {j : Nat} (hj : j < m) : W.cell? ⟨b, j, none⟩ = some (.bool (f j)) := (h.2 j hj).1
theorem frozen (h : Bools W b m f) {j : Nat} (hj : j < m) : W.frozen? ⟨b, j, none⟩ = false := (h.2 j hj).2
theorem congr (h : Bools W b m f) (e : ∀ j, j < m → f j = g j) : Bools W b m g := ⟨h.1, fun j hj => by rw [← e j hj]; exact h.2 j hj⟩
theorem set (h : Bools W b m f) (i : Nat) (x : Bool) (hi : i < m) (hx : g i = x) (hg : ∀ j, j < m → j ≠ i → g j = f j) : Bools (W.setCell ⟨b, i, none⟩ (.bool x)) b m g := by
  refine ⟨by rw [World.size_setCell]; exact h.1, fun j hj => ?_⟩
  obtain ⟨h1, h2⟩ := h.2 j hj
  refine ⟨?_, by rw [World.frozen?_setCell]; exact h2⟩
  by_cases e : j = i
  · subst e
    rw [World.cell?_setCell_same' _ _ _ (by rw [h1]; rfl), hx]
  · rw [World.cell?_setCell_other (h := addr_off (fun x => e x.symm)), hg j hj e]
    exact h1
theorem of_block (h : Bools W b m f) (e : W'.heap[b]? = W.heap[b]?) : Bools W' b m f := by
  refine ⟨?_, fun j hj => ?_⟩
  · apply Nat.lt_of_not_le
    intro hh
    rw [Array.getElem?_eq_none hh, Array.getElem?_eq_getElem h.1] at e
    cases e
  · obtain ⟨h1, h2⟩ := h.2 j hj
    exact ⟨(World.cell?_of_block (w := W) (a := ⟨b, j, none⟩) e).trans h1, (World.frozen?_of_block (w := W) (a := ⟨b, j, none⟩) e).trans h2⟩
theorem below (h : Bools W b m f) (hb : Below W.heap.size W W') : Bools W' b m f := h.of_block (hb.block b h.1)
theorem alloc (h : Bools W b m f) (o : Obj) : Bools (W.alloc o) b m f := h.of_block (Below.heap_alloc _ _ _ h.1)
theorem but {c : Nat} (h : Bools W b m f) (hb : But c W W') (hc : b ≠ c) : Bools W' b m f := h.of_block (hb.rest b h.1 hc)
end Bools
theorem madeBools {w : World} {base b e n cap : Nat} (h : w.ownsRow base e 1 (.slice (some ⟨b, 0, none⟩) n cap) n (madeCells (Value.bool false).cells (n * 1)).toList) : Bools w b n (fun _ => false) := by
  obtain ⟨hl, h⟩ := h
  rcases h with ⟨hv, _⟩ | ⟨g, c, cur, hv, hb, hg, hnc, hm, hsz, ht⟩
  · simp at hv
  · simp only [Value.slice.injEq, Option.some.injEq, Addr.mk.injEq] at hv
    obtain ⟨⟨rfl, _, _⟩, _, rfl⟩ := hv
    refine ⟨(Array.getElem?_eq_some_iff.1 hg).1, fun j hj => ?_⟩
    have e1 : w.cell? ⟨b, j, none⟩ = cur[j]? := by
      unfold World.cell?
      rw [hg]
      simp
    have e2 : (cur.toList.take (n * 1))[j]? = cur[j]? := by
      rw [List.getElem?_take_of_lt (by omega)]
      simp
    refine ⟨?_, ?_⟩
    · rw [e1, ← e2, ht]
      unfold madeCells
      simp [Value.cells, hj, Nat.mod_one]
    · unfold World.frozen?
      rw [hg]
      simp
/-- A word: n bytes at the block b, n marks at the block eb. -/
structure Wd (w : World) (b cb eb ce n : Nat) (f : Nat → BitVec 8) (er : Nat → Bool) : Prop where
  num : NumsK .u8 w b n (fun j => (f j).toNat)
  er : Bools w eb n er
  cap : n ≤ cb
namespace Wd
variable {w w' : World} {b cb eb ce n : Nat} {f : Nat → BitVec 8} {er : Nat → Bool}
theorem below (h : Wd w b cb eb ce n f er) (hb : Below w.heap.size w w') : Wd w' b cb eb ce n f er := ⟨h.num.below hb, h.er.below hb, h.cap⟩
theorem alloc (h : Wd w b cb eb ce n f er) (o : Obj) : Wd (w.alloc o) b cb eb ce n f er := ⟨h.num.alloc o, h.er.alloc o, h.cap⟩
end Wd
theorem nums_head {k : IntKind} {w : World} {b n m : Nat} {f : Nat → Nat} (h : NumsK k w b n f) (hm : m ≤ n) : NumsK k w b m f := ⟨h.1, fun j hj => h.2 j (by omega)⟩
set_option maxRecDepth 100000 in
theorem erasures_any (b cb eb ce n : Nat) (f : Nat → BitVec 8) (er : Nat → Bool) (hn : n ≤ 1000) (w : World) (H : Wd w b cb eb ce n f er) :
    Calls Tryz.prog 47 #[.agg #[.slice (some ⟨b, 0, none⟩) n cb, .slice (some ⟨eb, 0, none⟩) n ce]] w fun e w' => e = .returned (.int .i64 (Blk.cnt er n : Nat)) ∧ Below w.heap.size w w' := by
  have CS := Lib.hid (fun k => Blk.cnt_succ er k)
  have CL := Lib.hid (fun k => Blk.cnt_le er k)
  have HC := Lib.hid (fun j (hj : j < n) => (H.er.alloc (.cells #[.slice (some ⟨b, 0, none⟩) n cb, .slice (some ⟨eb, 0, none⟩) n ce] 53)).cell hj)
  have FIN := Lib.hid (ba (Below.refl w.heap.size w) (.cells #[.slice (some ⟨b, 0, none⟩) n cb, .slice (some ⟨eb, 0, none⟩) n ce] 53))
  clear H
  go_enter Tryz.func47, Tryz.ntmps47
  go_wp2_with fail
  go_loop [3, 9] (fun c i => ∃ k : Nat, k ≤ n ∧ i = .int .i64 (k : Nat) ∧ c = .int .i64 (Blk.cnt er k : Nat)) (fun _ i => n - (intOf i).toNat)
  case atStart => exact ⟨0, Nat.zero_le _, rfl, rfl⟩
  case round =>
    obtain ⟨k, hk, rfl, rfl⟩ := hrel
    have cs := CS.out k
    have cl := CL.out k
    obtain ⟨c, hc⟩ : ∃ c, Blk.cnt er k = c := ⟨_, rfl⟩
    rw [hc] at cs cl ⊢
    by_cases hlt : k < n
    · have c1 := HC.out k hlt
      obtain ⟨v, hv⟩ : ∃ v, er k = v := ⟨_, rfl⟩
      rw [hv] at c1 cs
      cases v with
      | true =>
        have EC := Lib.hid (show Blk.cnt er (k + 1) = c + 1 from cs)
        clear hc cs hv CS CL
        go_wp2_with fail
        go_round
        case rel => exact ⟨k + 1, by omega, by go_num, by rw [EC.out]; go_num⟩
        case measure => simp [intOf]; omega
      | false =>
        have EC := Lib.hid (show Blk.cnt er (k + 1) = c from cs)
        clear hc cs hv CS CL
        go_wp2_with fail
        go_round
        case rel => exact ⟨k + 1, by omega, by go_num, by rw [EC.out]⟩
        case measure => simp [intOf]; omega
    · obtain rfl : n = k := by omega
      have HCC := Lib.hid hc
      clear hc cs CS CL HC
      go_wp2_with fail
      go_ret
      exact ⟨by rw [HCC.out]; rfl, FIN.out⟩
set_option maxRecDepth 100000 in
theorem differences_any (b cb eb ce n b2 cb2 : Nat) (s2 : Value) (f g : Nat → BitVec 8) (hn : n ≤ 1000) (w : World) (H : NumsK .u8 w b n (fun j => (f j).toNat)) (H2 : NumsK .u8 w b2 n (fun j => (g j).toNat)) :
    Calls Tryz.prog 51 #[.agg #[.slice (some ⟨b, 0, none⟩) n cb, .slice (some ⟨eb, 0, none⟩) n ce], .agg #[.slice (some ⟨b2, 0, none⟩) n cb2, s2]] w fun e w' => e = .returned (.int .i64 (Blk.cnt (fun i => decide (f i ≠ g i)) n : Nat)) ∧ Below w.heap.size w w' := by
  have dn0 : ∀ i, (fun i => decide (f i ≠ g i)) i = decide (f i ≠ g i) := fun i => rfl
  have DN := Lib.hid dn0
  obtain ⟨P, hP⟩ : ∃ P, (fun i => decide (f i ≠ g i)) = P := ⟨_, rfl⟩
  rw [hP] at DN ⊢
  have CS := Lib.hid (fun k => Blk.cnt_succ P k)
  have CL := Lib.hid (fun k => Blk.cnt_le P k)
  have HC := Lib.hid (fun j (hj : j < n) => ((H.alloc (.cells #[.slice (some ⟨b, 0, none⟩) n cb, .slice (some ⟨eb, 0, none⟩) n ce] 53)).alloc (.cells #[.slice (some ⟨b2, 0, none⟩) n cb2, s2] 53)).cell hj)
  have HC2 := Lib.hid (fun j (hj : j < n) => ((H2.alloc (.cells #[.slice (some ⟨b, 0, none⟩) n cb, .slice (some ⟨eb, 0, none⟩) n ce] 53)).alloc (.cells #[.slice (some ⟨b2, 0, none⟩) n cb2, s2] 53)).cell hj)
  have FIN := Lib.hid (ba (ba (Below.refl w.heap.size w) (.cells #[.slice (some ⟨b, 0, none⟩) n cb, .slice (some ⟨eb, 0, none⟩) n ce] 53)) (.cells #[.slice (some ⟨b2, 0, none⟩) n cb2, s2] 53))
  clear H H2 dn0 hP
  go_enter Tryz.func51, Tryz.ntmps51
  go_wp2_with fail
  go_loop [5, 11] (fun c i => ∃ k : Nat, k ≤ n ∧ i = .int .i64 (k : Nat) ∧ c = .int .i64 (Blk.cnt P k : Nat)) (fun _ i => n - (intOf i).toNat)
  case atStart => exact ⟨0, Nat.zero_le _, rfl, rfl⟩
  case round =>
    obtain ⟨k, hk, rfl, rfl⟩ := hrel
    have cs := CS.out k
    have cl := CL.out k
    have dn := DN.out k
    obtain ⟨c, hc⟩ : ∃ c, Blk.cnt P k = c := ⟨_, rfl⟩
    rw [hc] at cs cl ⊢
    by_cases hlt : k < n
    · have c1 := HC.out k hlt
      have c2 := HC2.out k hlt
      by_cases hq : f k = g k
      · rw [dn, if_neg (by simp [hq])] at cs
        rw [hq] at c1
        have EC := Lib.hid (show Blk.cnt P (k + 1) = c from cs)
        obtain ⟨y, hy⟩ : ∃ y, (g k).toNat = y := ⟨_, rfl⟩
        rw [hy] at c1 c2
        have x2 : ((y : Int) != (y : Int)) = false := by simp
        clear hc cs dn hy CS CL DN HC HC2 hq
        go_wp2_with fail
        go_round
        case rel => exact ⟨k + 1, by omega, by go_num, by rw [EC.out]⟩
        case measure => simp [intOf]; omega
      · rw [dn, if_pos (by simp [hq])] at cs
        have EC := Lib.hid (show Blk.cnt P (k + 1) = c + 1 from cs)
        have ne : (f k).toNat ≠ (g k).toNat := fun q => hq (BitVec.eq_of_toNat_eq q)
        obtain ⟨x, hx⟩ : ∃ y, (f k).toNat = y := ⟨_, rfl⟩
        obtain ⟨y, hy⟩ : ∃ y, (g k).toNat = y := ⟨_, rfl⟩
        rw [hx] at c1 ne
        rw [hy] at c2 ne
        have x2 : ((x : Int) != (y : Int)) = true := by simp; omega
        clear hc cs dn hx hy CS CL DN HC HC2 hq ne
        go_wp2_with fail
        go_round
        case rel => exact ⟨k + 1, by omega, by go_num, by rw [EC.out]; go_num⟩
        case measure => simp [intOf]; omega
    · obtain rfl : n = k := by omega
      have HCC := Lib.hid hc
      clear hc cs dn CS CL HC HC2 DN
      go_wp2_with fail
      go_ret
      exact ⟨by rw [HCC.out]; rfl, FIN.out⟩
theorem element_any (b cb eb ce n p : Nat) (hn : n ≤ 1000) (hp : p < n) (w : World) :
    Calls Tryz.prog 75 #[.agg #[.slice (some ⟨b, 0, none⟩) n cb, .slice (some ⟨eb, 0, none⟩) n ce], .int .i64 (p : Nat)] w fun e w' => e = .returned (.int .u8 ((Blk.elem n p).toNat : Nat)) ∧ Below w.heap.size w w' := by
  have PW := Lib.hid (fun w => bpower_any ((n - 1 - p : Nat) : Int) w)
  rw [Gal.pwi_nat] at PW
  unfold Blk.elem
  have B0 := Lib.hid (ba (Below.refl w.heap.size w) (.cells #[.slice (some ⟨b, 0, none⟩) n cb, .slice (some ⟨eb, 0, none⟩) n ce] 53))
  obtain ⟨v, hv⟩ : ∃ v, (Gal.pw (n - 1 - p)).toNat = v := ⟨_, rfl⟩
  rw [hv] at PW ⊢
  obtain ⟨q, hq⟩ : ∃ q, n - 1 - p = q := ⟨_, rfl⟩
  rw [hq] at PW
  have e1 : (n : Int) - 1 - (p : Int) = (q : Int) := by omega
  have i1 : IntKind.i64.wrap ((n : Int) - 1 - (p : Int)) = (q : Int) := by rw [IntKind.wrap_i64]; omega
  clear hv hq
  go_enter Tryz.func75, Tryz.ntmps75
  go_wp2_with fail
  (with_reducible refine (PW.out _).mono ?_)
  rintro e w' ⟨rfl, h1⟩
  have B1 := Lib.hid (bt B0.out h1)
  clear h1 PW
  go_wp2_with fail
  go_ret
  exact ⟨rfl, B1.out⟩
set_option maxRecDepth 100000 in
theorem data_any (b cb n m : Nat) (s2 : Value) (f : Nat → BitVec 8) (hn : n ≤ 1000) (hm : m + 8 = n) (hc : n ≤ cb) (w : World) (H : NumsK .u8 w b n (fun j => (f j).toNat)) :
    Calls Tryz.prog 49 #[.agg #[.slice (some ⟨b, 0, none⟩) n cb, s2]] w fun e w' => e = .returned (.string ⟨(Gal.coefs f m).toArray⟩) ∧ Below w.heap.size w w' := by
  have CV := Lib.hid (nums_back cb ((nums_head H (show m ≤ n by omega)).alloc (.cells #[.slice (some ⟨b, 0, none⟩) n cb, s2] 53)))
  have B0 := Lib.hid (ba (Below.refl w.heap.size w) (.cells #[.slice (some ⟨b, 0, none⟩) n cb, s2] 53))
  obtain ⟨v, hv⟩ : ∃ v : ByteArray, (⟨(Gal.coefs f m).toArray⟩ : ByteArray) = v := ⟨_, rfl⟩
  rw [hv] at CV ⊢
  have e1 : (n : Int) - 8 = (m : Int) := by omega
  have i1 : IntKind.i64.wrap ((n : Int) - 8) = (m : Int) := by rw [IntKind.wrap_i64]; omega
  have mc : m ≤ cb := by omega
  have m8 : m ≤ 1000 := by omega
  clear hv H hm
  go_enter Tryz.func49, Tryz.ntmps49
  go_wp2_with (simp only [CV.out])
  go_ret
  exact ⟨rfl, B0.out⟩
theorem isDepth_any (d : Int) (w : World) :
    Calls Tryz.prog 23 #[.int .i64 d] w fun e w' => e = .returned (.bool (decide (1 ≤ d ∧ d ≤ 4))) ∧ w = w' := by
  by_cases h1 : 1 ≤ d
  · by_cases h2 : d ≤ 4
    · rw [decide_eq_true (show 1 ≤ d ∧ d ≤ 4 from ⟨h1, h2⟩)]
      go_enter Tryz.func23, Tryz.ntmps23
      go_wp2_with fail
      go_ret
      exact ⟨rfl, rfl⟩
    · rw [decide_eq_false (show ¬ (1 ≤ d ∧ d ≤ 4) by omega)]
      go_enter Tryz.func23, Tryz.ntmps23
      go_wp2_with fail
      go_ret
      exact ⟨rfl, rfl⟩
  · rw [decide_eq_false (show ¬ (1 ≤ d ∧ d ≤ 4) by omega)]
    go_enter Tryz.func23, Tryz.ntmps23
    go_wp2_with fail
    go_ret
    exact ⟨rfl, rfl⟩
/-- All elements are indices of n bytes. -/
def Within (zs : List Int) (n : Nat) : Prop := ∀ p, p ∈ zs → 0 ≤ p ∧ p < (n : Int)
instance (zs : List Int) (n : Nat) : Decidable (Within zs n) := inferInstanceAs (Decidable (∀ p, p ∈ zs → _))
set_option maxRecDepth 100000 in
theorem arePlaces_any (a : Option Addr) (cap m : Nat) (zs : List Int) (n : Nat) (hm : zs.length = m) (hl : m ≤ 400000) (hn : n ≤ 400000) (w : World) (R : Ints w a zs) :
    Calls Tryz.prog 27 #[.slice a m cap, .int .i64 (n : Nat)] w fun e w' => e = .returned (.bool (decide (Within zs n))) ∧ w = w' := by
  by_cases n0 : m = 0
  · subst n0
    obtain rfl := List.length_eq_zero_iff.1 hm
    rw [show decide (Within [] n) = true from decide_eq_true (fun p h => by simp at h)]
    clear R hm
    go_enter Tryz.func27, Tryz.ntmps27
    go_wp2_with fail
    refine wp_loop_rounds 1 ?_
    rw [rounds_succ]
    go_wp2_with fail
    go_ret
    exact ⟨rfl, rfl⟩
  · obtain ⟨b, o, rfl, l1, c1⟩ := R.cell (by omega)
    rw [hm] at c1
    have C1 := Lib.hid c1
    have NO := Lib.hid (fun k (h : k < m) (e : ¬ (0 ≤ zs.getD k 0 ∧ zs.getD k 0 < (n : Int))) => (show decide (Within zs n) = false from decide_eq_false (fun q => e (by
      rw [getD_at zs (by omega)]
      exact q _ (List.getElem_mem _)))))
    have YES := Lib.hid (fun (h : ∀ k, k < m → 0 ≤ zs.getD k 0 ∧ zs.getD k 0 < (n : Int)) => (show decide (Within zs n) = true from decide_eq_true (fun p hp => by
      obtain ⟨k, hk, e⟩ := List.getElem_of_mem hp
      have := h k (by omega)
      rw [getD_at zs hk, e] at this
      exact this)))
    obtain ⟨r, hr⟩ : ∃ r, decide (Within zs n) = r := ⟨_, rfl⟩
    rw [hr] at YES NO ⊢
    clear c1 R hm hr
    go_enter Tryz.func27, Tryz.ntmps27
    go_wp2_with fail
    go_loop [9] (fun i => ∃ k : Nat, k ≤ m ∧ i = .int .i64 (k : Nat) ∧ ∀ j, j < k → 0 ≤ zs.getD j 0 ∧ zs.getD j 0 < (n : Int)) (fun i => m - (intOf i).toNat)
    case atStart => exact ⟨0, Nat.zero_le _, rfl, fun j hj => absurd hj (Nat.not_lt_zero _)⟩
    case round =>
      obtain ⟨k, hk, rfl, hno⟩ := hrel
      by_cases hlt : k < m
      · have q1 := C1.out k hlt
        have y := NO.out k hlt
        have HNO := Lib.hid hno
        obtain ⟨x, hx⟩ : ∃ x, zs.getD k 0 = x := ⟨_, rfl⟩
        rw [hx] at q1 y
        have HX := Lib.hid hx
        by_cases g1 : x < 0
        · have y' := Lib.hid (y (by omega))
          clear hx hno y YES NO C1
          go_wp2_with fail
          go_ret
          exact ⟨by rw [y'.out]; rfl, rfl⟩
        · by_cases g2 : (n : Int) ≤ x
          · have y' := Lib.hid (y (by omega))
            clear hx hno y YES NO C1
            go_wp2_with fail
            go_ret
            exact ⟨by rw [y'.out]; rfl, rfl⟩
          · have G := Lib.hid (show 0 ≤ x ∧ x < (n : Int) by omega)
            clear hx hno y YES NO C1
            go_wp2_with fail
            go_round
            case rel => exact ⟨k + 1, by omega, by go_num, fun j hj => by
              by_cases e : j = k
              · subst e; rw [HX.out]; exact G.out
              · exact HNO.out j (by omega)⟩
            case measure => simp [intOf]; omega
      · obtain rfl : m = k := by omega
        have no := Lib.hid (YES.out hno)
        clear hno YES NO C1
        go_wp2_with fail
        go_ret
        exact ⟨by rw [no.out]; rfl, rfl⟩
structure IsRegion (d p : ByteArray) (bx b n cb : Nat) (f : Nat → BitVec 8) (A : Act) (w0 : World) (s : Nat → Bool) (a : Act) (w : World) : Prop where
  off : Off [6, 7, 8, 9, 10, 11, 12] a A
  before : Below w0.heap.size w0 w
  t0 : s 0 = true → a.eval (.tmp 6) = .string d
  t1 : s 1 = true → a.eval (.tmp 7) = .string d
  t2 : s 2 = true → a.eval (.tmp 8) = .string p
  t3 : s 3 = true → a.eval (.tmp 9) = .string (d ++ p)
  t4 : s 4 = true → a.eval (.tmp 10) = .pointer (some ⟨bx, 0, none⟩)
  t5 : s 5 = true → a.eval (.tmp 11) = .slice (some ⟨b, 0, none⟩) n cb
  t6 : s 6 = true → a.eval (.tmp 12) = .string ⟨(Gal.coefs f n).toArray⟩
set_option maxHeartbeats 2000000 in
set_option maxRecDepth 100000 in
theorem isRegion {id : Nat} {l : List Oper} {A : Act} {w : World} {Q : Exit → Act → World → Prop} (d p : ByteArray) (bx b n cb : Nat) (f : Nat → BitVec 8)
    (hd : d.size ≤ 1000) (hpz : p.size ≤ 1000) (hp : ∀ w, Calls Tryz.prog 19 #[.string d] w fun e w' => e = .returned (.string p) ∧ Below w.heap.size w w') (hbx : bx < w.heap.size) (hb0 : w.cell? ⟨bx, 0, none⟩ = some (.slice (some ⟨b, 0, none⟩) n cb)) (H : NumsK .u8 w b n (fun j => (f j).toNat))
    (hB : tableH l.toArray 7 (fun i => match i with | 0 => [] | 1 => [] | 2 => [1] | 3 => [0, 2] | 4 => [] | 5 => [4] | 6 => [5] | _ => []) (fun _ => []) = true)
    (h0 : pick l 0 = some (.move (.tmp 3), some 6))
    (h1 : pick l 1 = some (.move (.tmp 3), some 7))
    (h2 : pick l 2 = some (.call { callee := .value (.func 19), args := #[.tmp 7], argTypes := #[9] }, some 8))
    (h3 : pick l 3 = some (.binOp .add 9 (.tmp 6) (.tmp 8) 9, some 9))
    (h4 : pick l 4 = some (.fieldAddr 53 (.tmp 1) 0, some 10))
    (h5 : pick l 5 = some (.load 41 (.tmp 10), some 11))
    (h6 : pick l 6 = some (.convert 41 9 (.tmp 11), some 12))
    (hs : A.tmps.size = 14)
    (x1 : A.eval (.tmp 1) = .pointer (some ⟨bx, 0, none⟩))
    (x3 : A.eval (.tmp 3) = .string d)
    (h : ∀ w1, Below w.heap.size w w1 → wpList Tryz.prog l.toArray Q (l.drop 7) (((((((A.put (some 6) (.string d)).put (some 7) (.string d)).put (some 8) (.string p)).put (some 9) (.string (d ++ p))).put (some 10) (.pointer (some ⟨bx, 0, none⟩))).put (some 11) (.slice (some ⟨b, 0, none⟩) n cb)).put (some 12) (.string ⟨(Gal.coefs f n).toArray⟩)) w1) :
    (Code.region id l.toArray true).wp Tryz.prog Q A w := by
  refine wp_region_head (by kernel_rfl) _ _ _ hB (IsRegion d p bx b n cb f A w) ⟨Off.refl _ _, (Below.refl _ _).drew, by simp, by simp, by simp, by simp, by simp, by simp, by simp⟩ ?_ ?_
  · intro s a w' S i' o il ho hsi hT K hK
    have sz : a.tmps.size = 14 := by rw [S.off.2.1]; exact hs
    have y1 : a.eval (.tmp 1) = .pointer (some ⟨bx, 0, none⟩) := by rw [S.off.eval (by decide)]; exact x1
    have y3 : a.eval (.tmp 3) = .string d := by rw [S.off.eval (by decide)]; exact x3
    match i', il, ho, hsi, hT with
    | 0, _, ho, hsi, hT =>
      obtain ⟨e1, e2⟩ := pick_of h0 ho
      have BW := S.before
      refine step_val (v := .string d) (by simp only [execOp, e1, y3]; go_simp) (hK _ _ ?_)
      rw [e2]
      exact ⟨S.off.put (by decide) _, S.before, fun _ => (eval_put _ _ _ (by omega)).trans rfl, kp S.t1, kp S.t2, kp S.t3, kp S.t4, kp S.t5, kp S.t6⟩
    | 1, _, ho, hsi, hT =>
      obtain ⟨e1, e2⟩ := pick_of h1 ho
      have BW := S.before
      refine step_val (v := .string d) (by simp only [execOp, e1, y3]; go_simp) (hK _ _ ?_)
      rw [e2]
      exact ⟨S.off.put (by decide) _, S.before, kp S.t0, fun _ => (eval_put _ _ _ (by omega)).trans rfl, kp S.t2, kp S.t3, kp S.t4, kp S.t5, kp S.t6⟩
    | 2, _, ho, hsi, hT =>
      obtain ⟨e1, e2⟩ := pick_of h2 ho
      have D1 : s 1 = true := list_pos hT (d := 1) (by decide)
      have BW := S.before
      refine step_call 19 (fun args w => by go_simp) _ _ e1 #[.string d] (by simp only [List.map_toArray, List.map_cons, List.map_nil, S.t1 D1]) ((hp w').mono ?_)
      rintro e w2 ⟨rfl, BB⟩
      refine ⟨_, rfl, hK _ _ ?_⟩
      rw [e2]
      exact ⟨S.off.put (by decide) _, bt BW BB, kp S.t0, kp S.t1, fun _ => (eval_put _ _ _ (by omega)).trans rfl, kp S.t3, kp S.t4, kp S.t5, kp S.t6⟩
    | 3, _, ho, hsi, hT =>
      obtain ⟨e1, e2⟩ := pick_of h3 ho
      have D0 : s 0 = true := list_pos hT (d := 0) (by decide)
      have D2 : s 2 = true := list_pos hT (d := 2) (by decide)
      have BW := S.before
      refine step_val (v := .string (d ++ p)) (by simp only [execOp, e1, S.t0 D0, S.t2 D2]; go_simp; omega) (hK _ _ ?_)
      rw [e2]
      exact ⟨S.off.put (by decide) _, S.before, kp S.t0, kp S.t1, kp S.t2, fun _ => (eval_put _ _ _ (by omega)).trans rfl, kp S.t4, kp S.t5, kp S.t6⟩
    | 4, _, ho, hsi, hT =>
      obtain ⟨e1, e2⟩ := pick_of h4 ho
      have BW := S.before
      refine step_val (v := .pointer (some ⟨bx, 0, none⟩)) (by simp only [execOp, e1, y1]; go_simp) (hK _ _ ?_)
      rw [e2]
      exact ⟨S.off.put (by decide) _, S.before, kp S.t0, kp S.t1, kp S.t2, kp S.t3, fun _ => (eval_put _ _ _ (by omega)).trans rfl, kp S.t5, kp S.t6⟩
    | 5, _, ho, hsi, hT =>
      obtain ⟨e1, e2⟩ := pick_of h5 ho
      have D4 : s 4 = true := list_pos hT (d := 4) (by decide)
      have BW := S.before
      have cl := (BW.cell (p := ⟨bx, 0, none⟩) hbx).trans hb0
      refine step_val (v := .slice (some ⟨b, 0, none⟩) n cb) (by simp only [execOp, e1, S.t4 D4]; go_simp) (hK _ _ ?_)
      rw [e2]
      exact ⟨S.off.put (by decide) _, S.before, kp S.t0, kp S.t1, kp S.t2, kp S.t3, kp S.t4, fun _ => (eval_put _ _ _ (by omega)).trans rfl, kp S.t6⟩
    | 6, _, ho, hsi, hT =>
      obtain ⟨e1, e2⟩ := pick_of h6 ho
      have D5 : s 5 = true := list_pos hT (d := 5) (by decide)
      have BW := S.before
      have cv := nums_back cb (H.below BW)
      refine step_val (v := .string ⟨(Gal.coefs f n).toArray⟩) (by simp only [execOp, e1, S.t5 D5]; go_simp) (hK _ _ ?_)
      rw [e2]
      exact ⟨S.off.put (by decide) _, S.before, kp S.t0, kp S.t1, kp S.t2, kp S.t3, kp S.t4, kp S.t5, fun _ => (eval_put _ _ _ (by omega)).trans rfl⟩
    | _ + 7, il, _, _, _ => exact absurd il (by omega)
  · intro s a w' S hall
    have a0 := hall 0 (by omega)
    have a1 := hall 1 (by omega)
    have a2 := hall 2 (by omega)
    have a3 := hall 3 (by omega)
    have a4 := hall 4 (by omega)
    have a5 := hall 5 (by omega)
    have a6 := hall 6 (by omega)
    have e := off_norm _ (by intro d hd; simp at hd; omega) S.off
    simp only [List.foldl, S.t0 a0, S.t1 a1, S.t2 a2, S.t3 a3, S.t4 a4, S.t5 a5, S.t6 a6] at e
    rw [e]
    exact h _ S.before
set_option maxRecDepth 100000 in
theorem isBlock_any (b cb n : Nat) (s2 : Value) (f : Nat → BitVec 8) (h9 : 9 ≤ n) (hn : n ≤ 231) (hc : n ≤ cb) (w : World) (H : NumsK .u8 w b n (fun j => (f j).toNat)) :
    Calls Tryz.prog 48 #[.agg #[.slice (some ⟨b, 0, none⟩) n cb, s2]] w fun e w' => e = .returned (.bool (decide (Blk.Code (Gal.coefs f n)))) ∧ Below w.heap.size w w' := by
  obtain ⟨m, hm⟩ : ∃ m, m + 8 = n := ⟨n - 8, by omega⟩
  have HA := Lib.hid (H.alloc (.cells #[.slice (some ⟨b, 0, none⟩) n cb, s2] 53))
  have DA := Lib.hid (data_any b cb n m s2 f (by omega) hm hc _ HA.out)
  have PA := Lib.hid (fun w => parity_any ⟨(Gal.coefs f m).toArray⟩ (by rw [sz, Gal.coefs_length]; omega) w)
  have EN := enc_str ⟨(Gal.coefs f m).toArray⟩
  have CI := Blk.code_iff (Gal.coefs f n) (by rw [Gal.coefs_length]; exact h9) (by rw [Gal.coefs_length]; exact hn)
  have TK : (Gal.coefs f n).take ((Gal.coefs f n).length - 8) = Gal.coefs f m := by
    rw [Gal.coefs_length]
    unfold Gal.coefs
    rw [← List.map_take, List.take_range, Nat.min_eq_left (by omega), show n - 8 = m by omega]
  rw [TK] at CI
  have pz : (⟨(Gal.coefs (Blk.rem (⟨(Gal.coefs f m).toArray⟩ : ByteArray).data.toList) 8).reverse.toArray⟩ : ByteArray).size = 8 := by rw [sz, List.length_reverse, Gal.coefs_length]
  rw [show (⟨(Gal.coefs f m).toArray⟩ : ByteArray).data.toList = Gal.coefs f m from rfl] at EN PA pz
  have dz := sz (Gal.coefs f m)
  rw [Gal.coefs_length] at dz
  obtain ⟨d, hd⟩ : ∃ d : ByteArray, (⟨(Gal.coefs f m).toArray⟩ : ByteArray) = d := ⟨_, rfl⟩
  obtain ⟨p, hp⟩ : ∃ d : ByteArray, (⟨(Gal.coefs (Blk.rem (Gal.coefs f m)) 8).reverse.toArray⟩ : ByteArray) = d := ⟨_, rfl⟩
  rw [hd] at DA EN PA dz
  rw [hp] at EN PA pz
  have B0 := Lib.hid (ba (Below.refl w.heap.size w) (.cells #[.slice (some ⟨b, 0, none⟩) n cb, s2] 53))
  have cx : (w.alloc (.cells #[.slice (some ⟨b, 0, none⟩) n cb, s2] 53)).cell? ⟨w.heap.size, 0, none⟩ = some (.slice (some ⟨b, 0, none⟩) n cb) := World.cell?_alloc_new w _ _ 0
  have lx : w.heap.size < (w.alloc (.cells #[.slice (some ⟨b, 0, none⟩) n cb, s2] 53)).heap.size := by rw [World.size_alloc]; omega
  have HCX := Lib.hid cx
  have HLX := Lib.hid lx
  -- what the comparison says
  have KEY : Hid (∃ t : ByteArray, (⟨(Gal.coefs f n).toArray⟩ : ByteArray) = t ∧ ((d ++ p) == t) = decide (Blk.Code (Gal.coefs f n)) ∧ ((d ++ p).toList == t.toList) = decide (Blk.Code (Gal.coefs f n))) := Lib.hid (by
    refine ⟨_, rfl, ?_, ?_⟩
    · rw [EN]
      by_cases h : Blk.enc (Gal.coefs f m) = Gal.coefs f n
      · rw [decide_eq_true (CI.2 h), h]
        show ((⟨(Gal.coefs f n).toArray⟩ : ByteArray).data == (⟨(Gal.coefs f n).toArray⟩ : ByteArray).data) = true
        simp
      · rw [decide_eq_false (fun q => h (CI.1 q))]
        exact beq_no (fun q => h (congrArg (fun q : ByteArray => q.data.toList) q))
    · rw [← beq_toListBytes, EN]
      by_cases h : Blk.enc (Gal.coefs f m) = Gal.coefs f n
      · rw [decide_eq_true (CI.2 h), h]
        show ((⟨(Gal.coefs f n).toArray⟩ : ByteArray).data == (⟨(Gal.coefs f n).toArray⟩ : ByteArray).data) = true
        simp
      · rw [decide_eq_false (fun q => h (CI.1 q))]
        exact beq_no (fun q => h (congrArg (fun q : ByteArray => q.data.toList) q)))
  have d1 : d.size ≤ 1000 := by omega
  have p1 : p.size ≤ 1000 := by omega
  obtain ⟨r, hr⟩ : ∃ r, decide (Blk.Code (Gal.coefs f n)) = r := ⟨_, rfl⟩
  rw [hr] at KEY ⊢
  clear H EN CI TK pz dz hd hp cx lx hr hm
  go_enter Tryz.func48, Tryz.ntmps48
  go_wp2_with fail
  (with_reducible refine DA.out.mono ?_)
  rintro e w1 ⟨rfl, h1⟩
  have B1 := Lib.hid (bt B0.out h1)
  have HA1 := Lib.hid (HA.out.below h1)
  have cx1 := Lib.hid ((h1.cell (p := ⟨w.heap.size, 0, none⟩) HLX.out).trans HCX.out)
  have lx1 := Lib.hid (Nat.lt_of_lt_of_le HLX.out h1.size)
  clear h1 DA
  go_upto_region 2 with fail
  refine isRegion d p w.heap.size b n cb f d1 p1 PA.out lx1.out cx1.out HA1.out (by kernel_rfl) rfl rfl rfl rfl rfl rfl rfl rfl rfl rfl ?_
  intro w2 h2
  simp only [Act.put, List.setIfInBounds_toArray, List.set_cons_succ, List.set_cons_zero, List.drop_succ_cons, List.drop_zero]
  have B2 := Lib.hid (bt B1.out h2)
  obtain ⟨t, ht, k1, k2⟩ := KEY.out
  rw [ht]
  clear h2 PA HA1 HA ht
  go_wp2_with fail
  go_ret
  exact ⟨rfl, B2.out⟩
end Go.Proofs.YtlpjhmafplljaaaGreatDoor
