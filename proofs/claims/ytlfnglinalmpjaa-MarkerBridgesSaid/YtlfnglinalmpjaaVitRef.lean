/- The contracts of perigeeref07's Soft, List, Soften, Score over this program. -/
import Derived.Test.YtlfnglinalmpjaaIntsKit
import Derived.Test.YtlfnglinalmpjaaCvRef
import Derived.Test.YtlfnglinalmpjaaVitMath
namespace Go.Proofs.Ytlfnglinalmpjaa
open Go.RowKit
set_option linter.unusedVariables false

/-- Is a number a soft value? -/
def sOk (z : Int) : Prop := -8 ≤ z ∧ z ≤ 7
instance (z : Int) : Decidable (sOk z) := by unfold sOk; infer_instance
/-- Are all numbers soft values? -/
def softOk (zs : List Int) : Bool := (List.range zs.length).all fun i => decide (sOk (zs.getD i 0))
theorem softOk_iff (zs : List Int) : softOk zs = true ↔ ∀ i, i < zs.length → sOk (zs.getD i 0) := by
  unfold softOk
  rw [List.all_eq_true]
  constructor
  · intro h i hi
    simpa using h i (by simpa using hi)
  · intro h i hi
    simpa using h i (by simpa using hi)
theorem softOk_no {zs : List Int} {i : Nat} (hi : i < zs.length) (h : ¬ sOk (zs.getD i 0)) : softOk zs = false := by
  rw [Bool.eq_false_iff]
  intro e
  exact h ((softOk_iff zs).1 e i hi)
set_option maxRecDepth 100000 in
set_option maxHeartbeats 1000000 in
theorem soft_any (a : Option Addr) (cap : Nat) (zs : List Int) (n : Nat) (hn : zs.length = n) (hl : n ≤ 1000000) (w : World) (R : Ints w a zs) :
    Calls Try.prog 39 #[.slice a n cap] w fun e w' => e = .returned (.bool (softOk zs)) ∧ w = w' := by
  have SI := Lib.hid (softOk_iff zs)
  have SN := Lib.hid (fun i hi h => softOk_no (zs := zs) (i := i) hi h)
  have RC := Lib.hid (fun h => R.cell h)
  have HN := Lib.hid hn
  obtain ⟨b0, hb0⟩ : ∃ b, softOk zs = b := ⟨_, rfl⟩
  rw [hb0] at SI SN ⊢
  clear hb0 R hn
  go_enter Try.func39, Try.ntmps39
  go_wp2_with fail
  go_loop [3] (fun x => ∃ k : Nat, k ≤ n ∧ x = .int .i64 (k : Nat) ∧ ∀ j, j < k → sOk (zs.getD j 0)) (fun x => n - (intOf x).toNat)
  case atStart => exact ⟨0, Nat.zero_le _, rfl, fun j h => absurd h (Nat.not_lt_zero j)⟩
  case round =>
    obtain ⟨k, hk, rfl, hall⟩ := hrel
    have HA := Lib.hid hall
    clear hall
    by_cases hlt : k < n
    · obtain ⟨b, off, rfl, hb, hc⟩ := RC.out (by rw [HN.out]; omega)
      have cl := hc k (by rw [HN.out]; exact hlt)
      obtain ⟨x, hx⟩ : ∃ x, zs.getD k 0 = x := ⟨_, rfl⟩
      have HX := Lib.hid hx
      rw [hx] at cl
      have t1 : decide ((k : Int) < (n : Int)) = true := by simp; omega
      have k9 : (k : Int) < (n : Int) := by omega
      clear hc hx
      by_cases h1 : x < -8
      · have B0 := Lib.hid (SN.out k (by rw [HN.out]; exact hlt) (by rw [HX.out]; unfold sOk; omega))
        have d1 : decide (x < (-8 : Int)) = true := by simp; omega
        clear SI SN RC
        go_wp2_with fail
        go_ret
        exact ⟨by rw [B0.out]; rfl, rfl⟩
      · have d1 : decide (x < (-8 : Int)) = false := by simp; omega
        by_cases h2 : 7 < x
        · have B0 := Lib.hid (SN.out k (by rw [HN.out]; exact hlt) (by rw [HX.out]; unfold sOk; omega))
          have d2 : decide ((7 : Int) < x) = true := by simp; omega
          clear SI SN RC
          go_wp2_with fail
          go_ret
          exact ⟨by rw [B0.out]; rfl, rfl⟩
        · have d2 : decide ((7 : Int) < x) = false := by simp; omega
          have HA2 := Lib.hid (show ∀ j, j < k + 1 → sOk (zs.getD j 0) from fun j hj => by
            by_cases e : j = k
            · subst e
              rw [HX.out]
              unfold sOk
              omega
            · exact HA.out j (by omega))
          clear SI SN RC HA
          go_wp2_with fail
          go_round
          case rel => exact ⟨k + 1, by omega, by go_num, HA2.out⟩
          case measure => simp [intOf]; omega
    · have t1 : decide ((k : Int) < (n : Int)) = false := by simp; omega
      have B0 := Lib.hid (SI.out.2 (fun i hi => HA.out i (by rw [HN.out] at hi; omega)))
      clear SI SN RC HA
      go_wp2_with fail
      go_ret
      exact ⟨by rw [B0.out]; rfl, rfl⟩
/-- Is a string a symbol list? -/
def listOk (l : List UInt8) : Bool := (List.range l.length).all fun i => decide ((Gal.co l i).toNat < 2)
theorem listOk_iff (l : List UInt8) : listOk l = true ↔ ∀ i, i < l.length → (Gal.co l i).toNat < 2 := by
  unfold listOk
  rw [List.all_eq_true]
  constructor
  · intro h i hi
    simpa using h i (by simpa using hi)
  · intro h i hi
    simpa using h i (by simpa using hi)
theorem listOk_no {l : List UInt8} {i : Nat} (hi : i < l.length) (h : ¬ (Gal.co l i).toNat < 2) : listOk l = false := by
  rw [Bool.eq_false_iff]
  intro e
  exact h ((listOk_iff l).1 e i hi)
set_option maxRecDepth 100000 in
theorem list_any (s : ByteArray) (n : Nat) (hn : s.size = n) (hl : n ≤ 1000000) (w : World) :
    Calls Try.prog 34 #[.string s] w fun e w' => e = .returned (.bool (listOk s.data.toList)) ∧ w = w' := by
  have SI := Lib.hid (listOk_iff s.data.toList)
  have SN := Lib.hid (fun i hi h => listOk_no (l := s.data.toList) (i := i) hi h)
  rw [ls] at SI SN
  have BY := Lib.hid (fun i h => byte_co s i h)
  have HN := Lib.hid hn
  obtain ⟨b0, hb0⟩ : ∃ b, listOk s.data.toList = b := ⟨_, rfl⟩
  rw [hb0] at SI SN ⊢
  rw [hn] at SI SN
  clear hb0
  go_enter Try.func34, Try.ntmps34
  go_wp2_with fail
  go_loop [3] (fun x => ∃ k : Nat, k ≤ n ∧ x = .int .i64 (k : Nat) ∧ ∀ j, j < k → (Gal.co s.data.toList j).toNat < 2) (fun x => n - (intOf x).toNat)
  case atStart => exact ⟨0, Nat.zero_le _, rfl, fun j h => absurd h (Nat.not_lt_zero j)⟩
  case round =>
    obtain ⟨k, hk, rfl, hall⟩ := hrel
    have HA := Lib.hid hall
    clear hall
    by_cases hlt : k < n
    · have is : k < s.size := by rw [HN.out]; exact hlt
      have bi := BY.out k is
      obtain ⟨x, hx⟩ : ∃ x, (Gal.co s.data.toList k).toNat = x := ⟨_, rfl⟩
      have HX := Lib.hid hx
      rw [hx] at bi
      have x256 : x < 256 := by rw [← hx]; exact (Gal.co s.data.toList k).isLt
      have t1 : decide ((k : Int) < (n : Int)) = true := by simp; omega
      clear hx
      by_cases h1 : x < 2
      · have d1 : decide ((1 : Int) < (x : Int)) = false := by simp; omega
        have HA2 := Lib.hid (show ∀ j, j < k + 1 → (Gal.co s.data.toList j).toNat < 2 from fun j hj => by
          by_cases e : j = k
          · subst e
            rw [HX.out]
            exact h1
          · exact HA.out j (by omega))
        clear SI SN BY HA
        go_wp2_with fail
        go_round
        case rel => exact ⟨k + 1, by omega, by go_num, HA2.out⟩
        case measure => simp [intOf]; omega
      · have d1 : decide ((1 : Int) < (x : Int)) = true := by simp; omega
        have B0 := Lib.hid (SN.out k hlt (by rw [HX.out]; exact h1))
        clear SI SN BY HA
        go_wp2_with fail
        go_ret
        exact ⟨by rw [B0.out]; rfl, rfl⟩
    · have t1 : decide ((k : Int) < (n : Int)) = false := by simp; omega
      have sn := HN.out
      have B0 := Lib.hid (SI.out.2 (fun i hi => HA.out i (by omega)))
      clear SI SN BY HA
      go_wp2_with fail
      go_ret
      exact ⟨by rw [B0.out]; rfl, rfl⟩
/-- So many numbers as values, and as a list. -/
def zlist (f : Nat → Int) (n : Nat) : List Value := (List.range n).map (fun j => .int .i64 (f j))
theorem zlist_succ (f : Nat → Int) (n : Nat) : zlist f (n + 1) = zlist f n ++ [.int .i64 (f n)] := by simp [zlist, List.range_succ]
def zof (f : Nat → Int) (n : Nat) : List Int := (List.range n).map f
theorem zof_len (f : Nat → Int) (n : Nat) : (zof f n).length = n := by simp [zof]
theorem zof_get (f : Nat → Int) (n i : Nat) (h : i < n) : (zof f n).getD i 0 = f i := by
  unfold zof
  rw [List.getD_eq_getElem?_getD]
  simp [h]
theorem zlist_zof (f : Nat → Int) (n : Nat) : zlist f n = (zof f n).map (Value.int .i64) := by
  unfold zlist zof
  rw [List.map_map]
  rfl
/-- The soft value of a symbol. -/
def sft (l : List UInt8) (i : Nat) : Int := 14 * ((Gal.co l i).toNat : Int) - 7
/-- What Soften returns of a symbol list. -/
def Softened (l : List UInt8) (n : Nat) (w : World) (e : Ending) (w' : World) : Prop :=
  if listOk l = true then ∃ v, e = .returned (.tuple #[v, .int .i64 0]) ∧ w'.ownsRow w.heap.size 3 1 v n (zlist (sft l) n) ∧ Below w.heap.size w w' else e = .returned (.tuple #[.slice none 0 0, .int .i64 6]) ∧ Below w.heap.size w w'
theorem softened_yes {l : List UInt8} {n : Nat} {w w' : World} {e : Ending} (h : listOk l = true) (q : ∃ v, e = .returned (.tuple #[v, .int .i64 0]) ∧ w'.ownsRow w.heap.size 3 1 v n (zlist (sft l) n) ∧ Below w.heap.size w w') : Softened l n w e w' := by
  unfold Softened
  rw [if_pos h]
  exact q
theorem softened_no {l : List UInt8} {n : Nat} {w w' : World} {e : Ending} (h : listOk l = false) (q : e = .returned (.tuple #[.slice none 0 0, .int .i64 6]) ∧ Below w.heap.size w w') : Softened l n w e w' := by
  unfold Softened
  rw [if_neg (by rw [h]; simp)]
  exact q
set_option maxRecDepth 100000 in
set_option maxHeartbeats 1000000 in
theorem rsoften_any (s : ByteArray) (n : Nat) (hn : s.size = n) (hl : n ≤ 1000000) (w : World) :
    Calls Try.prog 41 #[.string s] w (Softened s.data.toList n w) := by
  have LA := Lib.hid (fun w => list_any s n hn hl w)
  have BY := Lib.hid (fun i h => byte_co s i h)
  have HN := Lib.hid hn
  have ss0 : ∀ k, sft s.data.toList k = 14 * ((Gal.co s.data.toList k).toNat : Int) - 7 := fun k => rfl
  have SS := Lib.hid ss0
  clear ss0
  by_cases h0 : listOk s.data.toList = true
  · have HL := Lib.hid h0
    rw [h0] at LA
    have LE := Lib.hid ((listOk_iff _).1 h0)
    rw [ls, hn] at LE
    clear h0 hn
    go_enter Try.func41, Try.ntmps41
    go_wp2_with fail
    (with_reducible refine (LA.out _).mono ?_)
    rintro e w' ⟨rfl, rfl⟩
    have sn := HN.out
    go_wp2_with fail
    clear sn
    go_loopw [4, 5] (fun o x wr => ∃ k : Nat, k ≤ n ∧ x = .int .i64 (k : Nat) ∧ wr.ownsRow w.heap.size 3 1 o k (zlist (sft s.data.toList) k) ∧ Below w.heap.size w wr) (fun _ x _ => n - (intOf x).toNat)
    case atStart => exact ⟨0, Nat.zero_le _, rfl, World.ownsRow_nil _ _ _ _, Below.refl _ _⟩
    case round =>
      obtain ⟨k, hk, rfl, hown, hB⟩ := hrel
      by_cases hlt : k < n
      · have is : k < s.size := by rw [HN.out]; exact hlt
        have bi := BY.out k is
        have x2 := LE.out k hlt
        have ns := zlist_succ (sft s.data.toList) k
        have ss := SS.out k
        obtain ⟨x, hx⟩ : ∃ x, (Gal.co s.data.toList k).toNat = x := ⟨_, rfl⟩
        obtain ⟨y, hy⟩ : ∃ y, sft s.data.toList k = y := ⟨_, rfl⟩
        rw [hx] at bi x2 ss
        rw [hy] at ns ss
        have y1 : 14 * (x : Int) - 7 = y := ss.symm
        have l1 : decide ((k : Int) < (n : Int)) = true := by simp; omega
        have NS := Lib.hid ns
        have SL := Lib.hid (own_slen hown)
        have HO := Lib.hid hown
        obtain ⟨i0, hi0, hz0, hz1, hz2⟩ := info_parts info_i64
        have B1 := Lib.hid (hB.alloc hB.size (.cells #[.int .i64 y] 3))
        have yb : -7 ≤ y ∧ y ≤ 7 := by omega
        clear hx hy ns ss hown hB BY LE SS LA
        go_wp2_with (at_builtin; refine wpList_append_own _ rfl _ _ 29 rfl w.heap.size 3 i0 (.int .i64 0) 1 8 Try.underlying29 hi0 hz0 hz1 hz2 rfl (by decide) _ _ _ rfl (HO.out.alloc _) ⟨wr.heap.size, 0, none⟩ 1 1 [.int .i64 y] rfl rfl cell_one (by simp [Value.oneCell']) (by unfold maxLen; omega) (by omega) (by have := B1.out.size; simp at this ⊢; omega) ?_; intro v' w2 hown2 hgrow _; obtain ⟨g', cap', rfl⟩ := ownsRow_succ hown2; have HO2 := Lib.hid hown2; have BW2 := Lib.hid (B1.out.grown hgrow B1.out.size (fun k e => own_block_ge HO.out e)); clear hown2 hgrow)
        go_roundw
        case rel => exact ⟨k + 1, by omega, by go_num, by rw [NS.out]; exact HO2.out, BW2.out⟩
        case measure => simp [intOf]; omega
      · have l1 : decide ((k : Int) < (n : Int)) = false := by simp; omega
        have HI := Lib.hid (show k = n by omega)
        have sn := HN.out
        have HO := Lib.hid hown
        have HB := Lib.hid hB
        clear hown hB BY LE SS LA
        go_wp2_with fail
        go_ret2
        exact softened_yes HL.out ⟨_, rfl, by rw [← HI.out]; exact HO.out, HB.out⟩
  · have h1 : listOk s.data.toList = false := by simpa using h0
    have HL := Lib.hid h1
    rw [h1] at LA
    clear h0 h1 hn
    go_enter Try.func41, Try.ntmps41
    go_wp2_with fail
    (with_reducible refine (LA.out _).mono ?_)
    rintro e w' ⟨rfl, rfl⟩
    go_wp2_with fail
    go_ret2
    exact softened_no HL.out ⟨rfl, Below.refl _ _⟩
/-- Are these the values of a message of n bytes? -/
def scOk (zs : List Int) (n : Nat) : Prop := n ≤ 1100 ∧ zs.length = 16 * n + 12 ∧ softOk zs = true
instance (zs : List Int) (n : Nat) : Decidable (scOk zs n) := by unfold scOk; infer_instance
/-- Numbers as a function. -/
def fz (zs : List Int) (i : Nat) : Int := zs.getD i 0
/-- What Score returns. -/
def scV (zs : List Int) (d : ByteArray) : Value :=
  if scOk zs d.size then .tuple #[.int .i64 (Vit.msum (fz zs) d.size (Gal.co d.data.toList)), .int .i64 0] else .tuple #[.int .i64 0, .int .i64 2]
theorem sg_bound {f : Nat → Int} {g : Nat → Nat} (hg : ∀ i, g i < 2) : ∀ k, (∀ i, i < k → sOk (f i)) → -8 * (k : Int) ≤ Vit.sg (fun i => (g i : Nat) * f i) k ∧ Vit.sg (fun i => (g i : Nat) * f i) k ≤ 8 * (k : Int)
  | 0, _ => ⟨by show -8 * ((0 : Nat) : Int) ≤ 0; omega, by show (0 : Int) ≤ 8 * ((0 : Nat) : Int); omega⟩
  | k + 1, h => by
    have ih := sg_bound hg k (fun i hi => h i (by omega))
    have o := h k (by omega)
    have b := hg k
    show _ ≤ Vit.sg (fun i => (g i : Nat) * f i) k + (g k : Nat) * f k ∧ Vit.sg (fun i => (g i : Nat) * f i) k + (g k : Nat) * f k ≤ _
    unfold sOk at o
    generalize Vit.sg (fun i => (g i : Nat) * f i) k = X at *
    generalize g k = p at *
    match p, b with
    | 0, _ => simp; omega
    | 1, _ => simp; omega
end Go.Proofs.Ytlfnglinalmpjaa
