/- BlkLocR, BlkLocF, BlkPat, BlkRnd, BlkDecR, BlkWalk as one text. -/
import Derived.Test.YtlpjhmafplljaaaGreatDoorPkN
import Derived.Test.YtlpjhmafplljaaaGreatDoorPkM
/- The reference's solve of no equations and mended without places; the product by 1 + X x. -/
namespace Go.Proofs.YtlpjhmafplljaaaGreatDoor
open Go.RowKit
set_option linter.unusedVariables false

namespace Blk
theorem co_two (x : BitVec 8) (i : Nat) : Gal.co [1, UInt8.ofBitVec x] i = if i = 0 then 1#8 else if i = 1 then x else 0#8 := by
  match i with
  | 0 => rfl
  | 1 => rfl
  | i + 2 => rw [Gal.co_out (by simp), if_neg (by omega), if_neg (by omega)]
theorem conv_two (f : Nat → BitVec 8) (x : BitVec 8) (k : Nat) : ∀ m, Gal.conv m f (Gal.co [1, UInt8.ofBitVec x]) k = (if k < m then f k else 0#8) ^^^ (if 1 ≤ k ∧ k - 1 < m then Gal.mul x (f (k - 1)) else 0#8)
  | 0 => by
    rw [if_neg (by omega), if_neg (by omega)]
    rfl
  | m + 1 => by
    show Gal.conv m f _ k ^^^ Gal.mul (f m) (Gal.sh m _ k) = _
    rw [conv_two f x k m]
    unfold Gal.sh
    by_cases h1 : k = m
    · subst h1
      rw [if_pos (Nat.le_refl _), Nat.sub_self, co_two, if_pos rfl, Gal.mul_one, if_neg (Nat.lt_irrefl k), if_pos (Nat.lt_succ_self k), BitVec.zero_xor, BitVec.xor_comm]
      by_cases h2 : 1 ≤ k ∧ k - 1 < k
      · rw [if_pos h2, if_pos (by omega)]
      · rw [if_neg h2, if_neg (by omega)]
    · by_cases h2 : k = m + 1
      · subst h2
        rw [if_neg (show ¬ m + 1 < m by omega), if_neg (show ¬ (1 ≤ m + 1 ∧ m + 1 - 1 < m) by omega), if_pos (show m ≤ m + 1 by omega), show m + 1 - m = 1 by omega, co_two, if_neg (show ¬ (1 : Nat) = 0 by omega), if_pos rfl, if_neg (show ¬ m + 1 < m + 1 by omega), if_pos (show 1 ≤ m + 1 ∧ m + 1 - 1 < m + 1 by omega), show m + 1 - 1 = m by omega, Gal.mul_comm]
        simp
      · have e : (if m ≤ k then Gal.co [1, UInt8.ofBitVec x] (k - m) else 0#8) = 0#8 := by
          by_cases h3 : m ≤ k
          · rw [if_pos h3, co_two, if_neg (show ¬ k - m = 0 by omega), if_neg (show ¬ k - m = 1 by omega)]
          · rw [if_neg h3]
        rw [e, Gal.mul_zero, BitVec.xor_zero]
        by_cases h3 : k < m
        · rw [if_pos h3, if_pos (show k < m + 1 by omega)]
          by_cases h4 : 1 ≤ k ∧ k - 1 < m
          · rw [if_pos h4, if_pos (show 1 ≤ k ∧ k - 1 < m + 1 by omega)]
          · rw [if_neg h4, if_neg (show ¬ (1 ≤ k ∧ k - 1 < m + 1) by omega)]
        · rw [if_neg h3, if_neg (show ¬ (1 ≤ k ∧ k - 1 < m) by omega), if_neg (show ¬ k < m + 1 by omega), if_neg (show ¬ (1 ≤ k ∧ k - 1 < m + 1) by omega)]
theorem co_prod_two (p : List UInt8) (x : BitVec 8) (h : p.length ≤ 1000) (k : Nat) : Gal.co (Gal.prodV p [1, UInt8.ofBitVec x]) k = Gal.co p k ^^^ Gal.mul x (Gal.sh 1 (Gal.co p) k) := by
  have h1 := Gal.nn_le p
  have h2 := Gal.nn_le [1, UInt8.ofBitVec x]
  simp only [List.length_cons, List.length_nil] at h2
  unfold Gal.prodV
  rw [if_neg (by omega), Gal.co_pol (Gal.prd_out _ _)]
  unfold Gal.prd
  rw [conv_two]
  congr 1
  · by_cases e : k < p.length
    · rw [if_pos e]
    · rw [if_neg e, Gal.co_out (by omega)]
  · unfold Gal.sh
    by_cases e : 1 ≤ k
    · rw [if_pos e]
      by_cases e2 : k - 1 < p.length
      · rw [if_pos ⟨e, e2⟩]
      · rw [if_neg (by omega), Gal.co_out (by omega), Gal.mul_zero]
    · rw [if_neg e, if_neg (by omega), Gal.mul_zero]
theorem prod_two_len (p : List UInt8) (x : BitVec 8) : (Gal.prodV p [1, UInt8.ofBitVec x]).length ≤ p.length + 2 := by
  unfold Gal.prodV
  by_cases h : 1024 ≤ ((Gal.nn p : Int) - 1) + ((Gal.nn [1, UInt8.ofBitVec x] : Int) - 1)
  · rw [if_pos h]
    simp
  · rw [if_neg h]
    unfold Gal.pol
    rw [Gal.trim_length]
    have := Gal.nn_le (Gal.coefs (Gal.prd p [1, UInt8.ofBitVec x]) (p.length + [1, UInt8.ofBitVec x].length))
    rw [Gal.coefs_length] at this
    exact this
theorem prod_two_ok (p : List UInt8) (x : BitVec 8) (h : p.length ≤ 1000) : Gal.prodE p [1, UInt8.ofBitVec x] = 0 := by
  have h1 := Gal.nn_le p
  have h2 := Gal.nn_le [1, UInt8.ofBitVec x]
  simp only [List.length_cons, List.length_nil] at h2
  exact if_neg (by omega)
end Blk
set_option maxRecDepth 100000 in
theorem rsolve_nil (w : World) : Calls Tryz.prog 52 #[.slice none 0 0] w fun e w' => e = .returned (.tuple #[.slice none 0 0, .bool true]) ∧ w = w' := by
  go_enter Tryz.func52, Tryz.ntmps52
  go_wp2_with fail
  refine wp_loop_rounds 1 ?_
  rw [rounds_succ]
  go_wp2_with fail
  refine wp_loop_rounds 1 ?_
  rw [rounds_succ]
  go_wp2_with fail
  go_ret2
  exact ⟨rfl, rfl⟩
set_option maxRecDepth 100000 in
theorem rmended_nil (b : ByteArray) (a : Option Addr) (Pc : Nat) (L : Nat) (hb : b.size = L) (hL : L ≤ 231) (w : World) :
    Calls Tryz.prog 34 #[.string b, .slice a 0 Pc] w fun e w' => e = .returned (.tuple #[.string b, .bool (decide (Blk.Code b.data.toList))]) ∧ Below w.heap.size w w' := by
  have S := Lib.hid (fun w => rsolve_nil w)
  have CB := Lib.hid (show (⟨(Gal.coefs (Gal.co b.data.toList) L).toArray⟩ : ByteArray) = b by rw [← hb, ← ls b, Gal.coefs_co, bytes_self])
  have CC := Lib.hid (show Gal.coefs (Gal.co b.data.toList) L = b.data.toList by rw [← hb, ← ls b, Gal.coefs_co])
  have c1 := run_bytes_of_string (P := Tryz.prog) w 9 41 5 b Tryz.underlying9 Tryz.underlying41 Tryz.underlying5
  obtain ⟨D, hcap⟩ : ∃ D, grownCap w b.size 0 5 = D := ⟨_, rfl⟩
  rw [hcap, hb] at c1
  have n1 := nums_new b D 5 w.drew
  rw [hb, show w.drew.heap.size = w.heap.size from rfl] at n1
  have b4 := ba (Below.refl w.heap.size w).drew (.cells (bytesRow b D) 5 ((bytesRow b D).size, (bytesRow b D).size + 1))
  obtain ⟨w4, hw4⟩ : ∃ w4, w.drew.alloc (.cells (bytesRow b D) 5 ((bytesRow b D).size, (bytesRow b D).size + 1)) = w4 := ⟨_, rfl⟩
  rw [hw4] at c1 n1 b4
  have C1 := Lib.hid c1
  have N1 := Lib.hid n1
  have B4 := Lib.hid b4
  clear c1 n1 b4 hw4 hcap
  go_enter Tryz.func34, Tryz.ntmps34
  go_wp2_with fail
  refine wp_loop_rounds 1 ?_
  rw [rounds_succ]
  go_wp2_with fail
  (with_reducible refine (S.out _).mono ?_)
  rintro e w' ⟨rfl, rfl⟩
  go_wp2_with (simp only [C1.out])
  refine wp_loop_rounds 1 ?_
  rw [rounds_succ]
  go_upto_region 20 with fail
  refine mendEnd w.heap.size L D (Gal.co b.data.toList) (by omega) N1.out (by kernel_rfl) rfl rfl rfl rfl rfl rfl rfl rfl rfl rfl ?_
  intro w7 B7
  simp only [Act.put, List.setIfInBounds_toArray, List.set_cons_succ, List.set_cons_zero]
  rw [CB.out, CC.out]
  have B8 := Lib.hid (bt B4.out B7)
  clear B7
  go_wp2_with fail
  go_ret2
  exact ⟨rfl, B8.out⟩
end Go.Proofs.YtlpjhmafplljaaaGreatDoor
/- The contract of perigeeref05's locator over this program. -/
namespace Go.Proofs.YtlpjhmafplljaaaGreatDoor
open Go.RowKit
set_option linter.unusedVariables false

theorem co_zeros (P : List UInt8) (j : Nat) : Gal.co (P ++ Gal.coefs (fun _ => 0#8) 16) j = Gal.co P j := by
  by_cases h : j < P.length
  · unfold Gal.co
    rw [List.getD_eq_getElem?_getD, List.getElem?_append_left h, ← List.getD_eq_getElem?_getD]
  · rw [Gal.co_out (l := P) (by omega)]
    by_cases h2 : j < P.length + 16
    · have : (P ++ Gal.coefs (fun _ => 0#8) 16).getD j 0 = 0 := by
        rw [List.getD_eq_getElem?_getD, List.getElem?_append_right (by omega), ← List.getD_eq_getElem?_getD]
        simp [Gal.coefs, show j - P.length < 16 by omega]
      simpa [Gal.co] using congrArg UInt8.toBitVec this
    · rw [Gal.co_out (by rw [List.length_append, Gal.coefs_length]; omega)]
/-- One byte as a string. -/
theorem one_str (w : World) (h : BitVec 8) :
    (convert 41 9 (.slice (some ⟨w.heap.size, 0, none⟩) 1 1)).run Tryz.prog (w.alloc (.cells #[.int .u8 (h.toNat : Nat)] 5)) = .ok (.string ⟨#[UInt8.ofBitVec h]⟩) (w.alloc (.cells #[.int .u8 (h.toNat : Nat)] 5)) := by
  have c0 : (w.alloc (.cells #[.int .u8 (h.toNat : Nat)] 5)).cell? ⟨w.heap.size, 0, none⟩ = some (.int .u8 (h.toNat : Nat)) := World.cell?_alloc_new w _ _ 0
  exact run_convert_bytes_back (P := Tryz.prog) _ 41 9 5 ⟨w.heap.size, 0, none⟩ 1 [UInt8.ofBitVec h] Tryz.underlying41 Tryz.underlying5 Tryz.underlying9 (fun j hj => by
    have e : (⟨w.heap.size, 0, none⟩ : Addr).add j = ⟨w.heap.size, j, none⟩ := by unfold Addr.add; split <;> simp_all
    rw [e]
    match j, hj with
    | 0, _ => rw [c0]; rfl)
/-- What locator does. -/
def Located (T : Nat → BitVec 8) (k e : Nat) (w : World) (en : Ending) (w' : World) : Prop :=
  Below w.heap.size w w' ∧ ((∃ y, Blk.Solves (Blk.locM T k e) e y 1#8 ∧ (∀ z, Blk.Solves (Blk.locM T k e) e z 1#8 → ∀ r, r < e → z r = y r) ∧ en = .returned (.tuple #[.string ⟨(1 :: Gal.coefs y e).toArray⟩, .bool true])) ∨
    (∃ z i, i < e ∧ z i = 1#8 ∧ Blk.Solves (Blk.locM T k e) e z 0#8 ∧ en = .returned (.tuple #[.string ⟨#[1]⟩, .bool false])))
/-- The syndromes with the factors of the places of l. -/
def twisted (b : List UInt8) (l : List Nat) : Nat → BitVec 8 := Blk.twist (Blk.elem b.length) l (Gal.co (Gal.coefs (Blk.syn b) 8))
set_option maxRecDepth 100000 in
set_option maxHeartbeats 1000000 in
theorem rlocator_some (b : ByteArray) (pb po : Nat) (Pc : Nat) (l : List Nat) (k e L : Nat) (hl : l.length = k) (he : k + 2 * e ≤ 8) (hb : b.size = L) (hL : L ≤ 231) (hp : ∀ i, i < k → l.getD i 0 < L) (w : World) (hpb0 : 0 < k → pb < w.heap.size) (ha : ∀ i, i < k → w.cell? ⟨pb, po + i, none⟩ = some (.int .i64 (l.getD i 0 : Nat))) :
    Calls Tryz.prog 31 #[.string b, .slice (some ⟨pb, po, none⟩) k Pc, .int .i64 e] w (Located (twisted b.data.toList l) k e w) := by
  have HP := Lib.hid hp
  have HA := Lib.hid ha
  have PW := Lib.hid (fun (k : Nat) w => power2_any (k : Nat) w)
  have TU := Lib.hid (fun w => turned_any b (by omega) w)
  have EV := Lib.hid (fun x w => reval_any ⟨b.data.toList.reverse.toArray⟩ x (by rw [sz, List.length_reverse, ls]; omega) w)
  have SE := Lib.hid (fun j => Blk.syn_eval b.data.toList j)
  have HL := Lib.hid hl
  have HBS := Lib.hid hb
  obtain ⟨S, hS⟩ : ∃ S, Blk.syn b.data.toList = S := ⟨_, rfl⟩
  have HT := Lib.hid (show twisted b.data.toList l = l.foldl (Blk.tstep (Blk.elem L)) (Gal.co (Gal.coefs S 8)) by unfold twisted Blk.twist; rw [ls, hb, hS])
  rw [hS] at SE
  obtain ⟨T, hT⟩ : ∃ T, twisted b.data.toList l = T := ⟨_, rfl⟩
  rw [hT] at HT ⊢
  clear hp ha hl hS hT
  go_enter Tryz.func31, Tryz.ntmps31
  go_wp2_with fail
  go_loopw [9, 10] (fun s u wr => ∃ j : Nat, j ≤ 8 ∧ u = .int .i64 j ∧ s = .string ⟨(Gal.coefs S j).toArray⟩ ∧ Below w.heap.size w wr) (fun _ u _ => 8 - (intOf u).toNat)
  case atStart => exact ⟨0, Nat.zero_le _, rfl, rfl, Below.refl _ _⟩
  case round =>
    obtain ⟨j, hj, rfl, rfl, hB⟩ := hrel
    by_cases hlt : j < 8
    · have tu := Lib.hid (TU.out wr)
      have CP := Lib.hid (fun w => PW.out j w)
      rw [Gal.pwi_nat] at CP
      have CE := Lib.hid (fun w => EV.out (Gal.pw j) w)
      obtain ⟨tb, htb⟩ : ∃ t : ByteArray, (⟨b.data.toList.reverse.toArray⟩ : ByteArray) = t := ⟨_, rfl⟩
      rw [htb] at tu CE
      have se := SE.out j
      rw [← se] at CE
      have cs := Lib.hid (show (⟨(Gal.coefs S j).toArray⟩ : ByteArray) ++ (⟨#[UInt8.ofBitVec (S j)]⟩ : ByteArray) = ⟨(Gal.coefs S (j + 1)).toArray⟩ by
        apply ByteArray.ext
        rw [ByteArray.data_append, Gal.coefs_succ]
        simp)
      have zs := coefs_size S j
      obtain ⟨pv, hpv⟩ : ∃ v, (Gal.pw j).toNat = v := ⟨_, rfl⟩
      rw [hpv] at CP CE
      have OS := Lib.hid (fun w => one_str w (S j))
      obtain ⟨v, hv⟩ : ∃ v, (S j).toNat = v := ⟨_, rfl⟩
      rw [hv] at CE OS
      obtain ⟨s1, hs1⟩ : ∃ z : ByteArray, (⟨(Gal.coefs S j).toArray⟩ : ByteArray) = z := ⟨_, rfl⟩
      obtain ⟨s2, hs2⟩ : ∃ z : ByteArray, (⟨#[UInt8.ofBitVec (S j)]⟩ : ByteArray) = z := ⟨_, rfl⟩
      have z2 : s2.size = 1 := by rw [← hs2]; rfl
      rw [hs1, hs2] at cs
      rw [hs2] at OS
      rw [hs1] at zs ⊢
      have HB := Lib.hid hB
      clear hB htb se hpv hv hs1 hs2
      go_wp2_with fail
      (with_reducible refine tu.out.mono ?_)
      rintro e w3 ⟨rfl, h3⟩
      have HB3 := Lib.hid (bt HB.out h3)
      clear h3
      go_wp2_with fail
      (with_reducible refine (CP.out _).mono ?_)
      rintro e w' ⟨rfl, rfl⟩
      go_wp2_with fail
      (with_reducible refine (CE.out _).mono ?_)
      rintro e w' ⟨rfl, rfl⟩
      have B4 := Lib.hid (ba HB3.out (.cells #[.int .u8 (v : Nat)] 5))
      have O4 := OS.out w3
      go_wp2_with fail
      go_roundw
      case rel => exact ⟨j + 1, by omega, by go_num, by rw [← cs.out], B4.out⟩
      case measure => simp [intOf]; omega
    · have J8 := Lib.hid (show j = 8 by omega)
      have HB := Lib.hid hB
      clear hB TU EV SE
      rename World => w1
      go_wp2_with fail
      go_loopw [9, 11] (fun s u wr => ∃ (i : Nat) (P : List UInt8), i ≤ k ∧ u = .int .i64 i ∧ s = .string ⟨P.toArray⟩ ∧ P.length ≤ 8 + 2 * i ∧ (∀ j, Gal.co P j = (l.take i).foldl (Blk.tstep (Blk.elem L)) (Gal.co (Gal.coefs S 8)) j) ∧ Below w.heap.size w wr) (fun _ u _ => k - (intOf u).toNat)
      case atStart => exact ⟨0, Gal.coefs S 8, Nat.zero_le _, rfl, by rw [← J8.out], by rw [Gal.coefs_length]; omega, fun _ => rfl, HB.out⟩
      case round =>
        obtain ⟨i, P, hi, rfl, rfl, hPl, hPT, hBq⟩ := hrel
        by_cases hik : i < k
        · have hpb := hpb0 (by omega)
          have hpc := HA.out
          have c1 := (hBq.cell (p := ⟨pb, po + i, none⟩) hpb).trans (hpc i hik)
          have ql := HP.out i hik
          have TS := Lib.hid (show l.take (i + 1) = l.take i ++ [l.getD i 0] by
            have hi2 : i < l.length := by rw [HL.out]; exact hik
            rw [List.take_add_one, List.getD_eq_getElem?_getD, List.getElem?_eq_getElem hi2]
            rfl)
          obtain ⟨q, hq⟩ : ∃ q, l.getD i 0 = q := ⟨_, rfl⟩
          rw [hq] at c1 ql TS
          obtain ⟨t, ht⟩ : ∃ t, L - 1 - q = t := ⟨_, rfl⟩
          have HX := Lib.hid (show Blk.elem L q = Gal.pw t by unfold Blk.elem; rw [ht])
          have i3 : IntKind.i64.wrap ((L : Int) - 1 - (q : Int)) = (t : Int) := by rw [IntKind.wrap_i64]; omega
          have e1 : (L : Int) - 1 - (q : Int) = (t : Int) := by omega
          have cp := Lib.hid (PW.out t wr)
          rw [Gal.pwi_nat] at cp
          obtain ⟨x, hx⟩ : ∃ x, Gal.pw t = x := ⟨_, rfl⟩
          rw [hx] at cp HX
          have p1 : P.length ≤ 1000 := by omega
          have CP := Lib.hid (fun j => Blk.co_prod_two P x p1 j)
          have PLN := Lib.hid (Blk.prod_two_len P x)
          have CR := Lib.hid (fun w => rprod_any (⟨P.toArray⟩ : ByteArray) ⟨#[1, UInt8.ofBitVec x]⟩ (by rw [sz]; omega) (show 2 ≤ 400000 by omega) w)
          rw [show (⟨P.toArray⟩ : ByteArray).data.toList = P from rfl, show (⟨#[1, UInt8.ofBitVec x]⟩ : ByteArray).data.toList = [1, UInt8.ofBitVec x] from rfl, Blk.prod_two_ok P x p1] at CR
          have cv := Lib.hid (pair_str wr 1#8 x)
          rw [show (UInt8.ofBitVec 1#8 : UInt8) = 1 from rfl, show ((1#8 : BitVec 8).toNat : Int) = 1 from rfl] at cv
          obtain ⟨v, hv⟩ : ∃ v, x.toNat = v := ⟨_, rfl⟩
          rw [hv] at cp cv
          obtain ⟨y, hy⟩ : ∃ y : ByteArray, (⟨#[1, UInt8.ofBitVec x]⟩ : ByteArray) = y := ⟨_, rfl⟩
          rw [hy] at CR cv
          obtain ⟨P2, hP2⟩ : ∃ P2, Gal.prodV P [1, UInt8.ofBitVec x] = P2 := ⟨_, rfl⟩
          rw [hP2] at CP CR PLN
          obtain ⟨s1, hs1⟩ : ∃ z : ByteArray, (⟨P.toArray⟩ : ByteArray) = z := ⟨_, rfl⟩
          rw [hs1] at CR ⊢
          have HPF := Lib.hid (funext hPT)
          have HTS := Lib.hid (fun j => (show Blk.tstep (Blk.elem L) (Gal.co P) q j = Gal.co P j ^^^ Gal.mul x (Gal.sh 1 (Gal.co P) j) by unfold Blk.tstep; rw [HX.out]))
          have B1 := Lib.hid (ba hBq (.cells #[.int .u8 1, .int .u8 (v : Nat)] 5))
          clear hBq hPT hq ht hx hv hy hP2 hs1 hpc HA
          go_wp2_with fail
          (with_reducible refine cp.out.mono ?_)
          rintro e w' ⟨rfl, rfl⟩
          go_wp2_with (simp only [cv.out])
          (with_reducible refine (CR.out _).mono ?_)
          rintro e w3 ⟨rfl, h3⟩
          have B3 := Lib.hid (bt B1.out h3)
          clear h3
          go_wp2_with fail
          go_roundw
          case rel => exact ⟨i + 1, P2, by omega, by go_num, rfl, by have := PLN.out; omega, fun j => by
            rw [CP.out, TS.out, List.foldl_append, List.foldl_cons, List.foldl_nil, ← HPF.out, HTS.out], B3.out⟩
          case measure => simp [intOf]; omega
        · obtain rfl : i = k := by omega
          have HPT := Lib.hid (show ∀ j, Gal.co P j = T j from fun j => by rw [HT.out, hPT j, List.take_of_length_le (by rw [HL.out]; exact Nat.le_refl _)])
          have zp := sz P
          have ZP := Lib.hid hPl
          obtain ⟨i0, hi0, hz0, hz1, hz2⟩ := info_parts info_u8
          have HBQ := Lib.hid hBq
          rename World => w2
          have z2' := coefs_size (fun _ => 0#8) 16
          obtain ⟨s2, hs2⟩ : ∃ z : ByteArray, (⟨(Gal.coefs (fun _ => 0#8) 16).toArray⟩ : ByteArray) = z := ⟨_, rfl⟩
          obtain ⟨s1, hs1⟩ : ∃ z : ByteArray, (⟨P.toArray⟩ : ByteArray) = z := ⟨_, rfl⟩
          have HS2 := Lib.hid hs2
          have HS1 := Lib.hid hs1
          rw [hs2] at z2'
          rw [hs1] at zp ⊢
          obtain ⟨np, hnp⟩ : ∃ n, P.length = n := ⟨_, rfl⟩
          rw [hnp] at zp hPl
          have HNP := Lib.hid hnp
          clear hPT hBq PW hs1 hs2 hnp
          go_upto_region 11 with fail
          go_wp2_with (first
            | (at_make; refine wpList_make_full _ rfl _ _ 41 rfl w2.heap.size 5 i0 (.int .u8 0) 1 Tryz.underlying41 hi0 hz0 hz1 .i64 .i64 _ _ 16 rfl rfl (by first | rfl | omega) (by first | rfl | omega) (by rw [hz2]; omega) (by unfold maxLen; omega) (Nat.le_refl _) ?_; intro w5 hown hgrow; have cv := nums_back (f := fun _ => 0#8) 16 (madeNums hown); rw [HS2.out] at cv; have B5 := Lib.hid (HBQ.out.grown hgrow HBQ.out.size (fun k e => by cases e)); clear hown hgrow)
            | fail)
          have HTT' : ∀ j, Gal.co (s1 ++ s2).data.toList j = T j := fun j => by
            rw [← HS1.out, ← HS2.out, ← HPT.out, ByteArray.data_append]
            have := co_zeros P j
            simpa using this
          have zt : (s1 ++ s2).size = np + 16 := by rw [ByteArray.size_append]; omega
          obtain ⟨tS, htS⟩ : ∃ t, s1 ++ s2 = t := ⟨_, rfl⟩
          rw [htS] at HTT' zt ⊢
          have HTT := Lib.hid HTT'
          have HBY := Lib.hid (fun i h => byte_co tS i h)
          have M1 := Lib.hid (fun r c (h : c < e) => (show Blk.locM T i e r c = T (i + e + r - 1 - c) from if_pos h))
          have M2 := Lib.hid (fun r => (show Blk.locM T i e r e = T (i + e + r) from if_neg (Nat.lt_irrefl e)))
          obtain ⟨mm, hmm⟩ : ∃ mm, Blk.locM T i e = mm := ⟨_, rfl⟩
          rw [hmm] at M1 M2
          have HMM := Lib.hid hmm
          have HZT := Lib.hid zt
          have w5l : w.heap.size ≤ w5.heap.size := B5.out.size
          clear HTT' htS hmm cv zt z2' zp hi0 hz0 hz1 hz2 HP HL HT J8 HB HBQ HS1 HS2 HPT HNP ZP
          go_loopw [13, 14] (fun o u wr => ∃ (r J : Nat) (β γ : Nat → Nat), r ≤ e ∧ J = i + e + r ∧ u = .int .i64 J ∧ Rows wr w.heap.size o r (e + 1) β γ mm ∧ (r = 0 → o = .slice none 0 0) ∧ Below w.heap.size w wr) (fun _ u _ => i + 2 * e - (intOf u).toNat)
          case atStart => exact ⟨0, i + e, fun _ => 0, fun _ => 0, Nat.zero_le _, rfl, by go_num, Rows.nil _ _ _ _ _ _, fun _ => rfl, B5.out⟩
          case round =>
            obtain ⟨r, J, β, γ, hr, hJ, rfl, hR, ho0, hB⟩ := hrel
            have HR := Lib.hid hR
            have HB := Lib.hid hB
            have HO0 := Lib.hid ho0
            have HJ := Lib.hid hJ
            rename World => w6
            by_cases hre : r < e
            · have lt1 : (J : Int) < (i : Int) + 2 * (e : Int) := by omega
              clear hR hB ho0 hJ B5
              go_wp2_with fail
              go_loopw [15, 16] (fun o u wr => ∃ c C : Nat, c ≤ e ∧ C = c + 1 ∧ u = .int .i64 C ∧ wr.ownsRow w6.heap.size 5 1 o c (vals (mm r) c) ∧ Below w6.heap.size w6 wr) (fun _ u _ => e + 1 - (intOf u).toNat)
              case atStart => exact ⟨0, 1, Nat.zero_le _, rfl, rfl, World.ownsRow_nil _ _ _ _, Below.refl _ _⟩
              case round =>
                obtain ⟨c, C, hc, hC, rfl, hown, hBq⟩ := hrel
                have HC := Lib.hid hC
                by_cases hce : c < e
                · have ns := vals_succ (mm r) c
                  rw [M1.out r c hce] at ns
                  obtain ⟨t, ht⟩ : ∃ t, i + e + r - 1 - c = t := ⟨_, rfl⟩
                  rw [ht] at ns
                  have hJ := HJ.out
                  have lt2 : (C : Int) ≤ (e : Int) := by omega
                  have i3 : IntKind.i64.wrap ((J : Int) - (C : Int)) = (t : Int) := by rw [IntKind.wrap_i64]; omega
                  have zt := HZT.out
                  have ts : t < tS.size := by omega
                  have bi := HBY.out t ts
                  rw [HTT.out] at bi
                  obtain ⟨v, hv⟩ : ∃ v, (T t).toNat = v := ⟨_, rfl⟩
                  rw [hv] at bi ns
                  have NS := Lib.hid ns
                  have HO := Lib.hid hown
                  have HQ := Lib.hid hBq
                  have c9 : c ≤ 9 := by omega
                  obtain ⟨i0, hi0, hz0, hz1, hz2⟩ := info_parts info_u8
                  have B1 := Lib.hid (hBq.alloc hBq.size (.cells #[.int .u8 (v : Int)] 5))
                  clear ns hown hBq hv ht hC hJ zt
                  go_wp2_with (at_builtin; refine wpList_append_own _ rfl _ _ 41 rfl w6.heap.size 5 i0 (.int .u8 0) 1 1 Tryz.underlying41 hi0 hz0 hz1 hz2 rfl (by decide) _ _ _ rfl (HO.out.alloc _) ⟨wr.heap.size, 0, none⟩ 1 1 [.int .u8 (v : Int)] rfl rfl cell_one (by simp [Value.oneCell']) (by unfold maxLen; omega) (by omega) (by have := B1.out.size; simp at this ⊢; omega) ?_; intro v' w9 hown2 hgrow _; obtain ⟨g', cap', rfl⟩ := ownsRow_succ hown2; have HO2 := Lib.hid hown2; have BW2 := Lib.hid (B1.out.grown hgrow B1.out.size (fun k e => own_block_ge HO.out e)); clear hown2 hgrow)
                  go_roundw
                  case rel => exact ⟨c + 1, C + 1, by omega, by rw [HC.out], by go_num, by rw [NS.out]; exact HO2.out, BW2.out⟩
                  case measure => have := HC.out; simp [intOf]; omega
                · obtain rfl : c = e := by omega
                  have ns := vals_succ (mm r) c
                  rw [M2.out r] at ns
                  have lt2 : ¬ (C : Int) ≤ (c : Int) := by omega
                  have zt := HZT.out
                  have ts : J < tS.size := by have := HJ.out; omega
                  have bi := HBY.out J ts
                  rw [HTT.out] at bi
                  rw [← HJ.out] at ns
                  obtain ⟨v, hv⟩ : ∃ v, (T J).toNat = v := ⟨_, rfl⟩
                  rw [hv] at bi ns
                  have NS := Lib.hid ns
                  have HO3 := Lib.hid hown
                  have HQ3 := Lib.hid hBq
                  rename World => w3
                  obtain ⟨i0, hi0, hz0, hz1, hz2⟩ := info_parts info_u8
                  obtain ⟨j0, hj0, hy0, hy1, hy2⟩ := info_parts info_bytes
                  have B1 := Lib.hid (HQ3.out.alloc HQ3.out.size (.cells #[.int .u8 (v : Int)] 5))
                  clear ns hown hBq hv zt hC
                  go_wp2_with (first
                    | (at_builtin; refine wpList_append_own _ rfl _ _ 41 rfl w6.heap.size 5 i0 (.int .u8 0) 1 1 Tryz.underlying41 hi0 hz0 hz1 hz2 rfl (by decide) _ _ _ rfl (HO3.out.alloc _) ⟨w3.heap.size, 0, none⟩ 1 1 [.int .u8 (v : Int)] rfl rfl cell_one (by simp [Value.oneCell']) (by unfold maxLen; omega) (by omega) (by have := B1.out.size; simp at this ⊢; omega) ?_; intro v' w9 hown5 hgrow5 _; obtain ⟨g', cap', rfl⟩ := ownsRow_succ hown5; have BW5 := Lib.hid (B1.out.grown hgrow5 B1.out.size (fun k e => own_block_ge HO3.out e)); have HOA := Lib.hid (hown5.alloc (.cells #[.slice (some ⟨g', 0, none⟩) (c + 1) cap'] 41)); have RA := Lib.hid (HR.out.below (ba BW5.out (.cells #[.slice (some ⟨g', 0, none⟩) (c + 1) cap'] 41))); have BA := Lib.hid (HB.out.trans ((ba BW5.out (.cells #[.slice (some ⟨g', 0, none⟩) (c + 1) cap'] 41)).mono HB.out.size)); clear hown5 hgrow5)
                    | (at_builtin; refine wpList_append_own _ rfl _ _ 76 rfl w.heap.size 41 j0 (.slice none 0 0) 1 24 Tryz.underlying76 hj0 hy0 hy1 hy2 rfl (by decide) _ _ _ rfl RA.out.own ⟨w9.heap.size, 0, none⟩ 1 1 [.slice (some ⟨g', 0, none⟩) (c + 1) cap'] rfl rfl cell_one (by simp [Value.oneCell']) (by unfold maxLen; omega) (by omega) BA.out.size ?_; intro v'' w10 hown6 hgrow6 _; have RP := Lib.hid (RA.out.push (b1 := w6.heap.size) (fun i hi => (own_at (HR.out.row i hi)).2.1) HB.out.size (f := mm r) (by rw [NS.out]; exact HOA.out) (fun _ _ => rfl) hown6 hgrow6); have BW6 := Lib.hid (BA.out.grown hgrow6 BA.out.size (fun k e => own_block_ge RA.out.own e)); clear hown6 hgrow6))
                  go_roundw
                  case rel => exact ⟨r + 1, J + 1, _, _, by omega, by rw [HJ.out]; omega, by go_num, RP.out, fun h => absurd h (Nat.succ_ne_zero r), BW6.out⟩
                  case measure => have := HJ.out; simp [intOf]; omega
            · obtain rfl : r = e := by omega
              have lt1 : ¬ (J : Int) < (i : Int) + 2 * (r : Int) := by omega
              clear B5 HBY HTT M1 M2 HZT
              have o1 : ({ data := #[1] } : ByteArray).size = 1 := rfl
              by_cases h0 : r = 0
              · obtain rfl := HO0.out h0
                have SN := Lib.hid (fun w => rsolve_nil w)
                have cv0 : (convert 41 9 (.slice none 0 0)).run Tryz.prog w6 = .ok (.string ⟨(Gal.coefs (fun _ => 0#8) 0).toArray⟩) w6 := own_back (World.ownsRow_nil w6 0 5 1)
                obtain ⟨s0, hs0⟩ : ∃ z : ByteArray, (⟨(Gal.coefs (fun _ => 0#8) 0).toArray⟩ : ByteArray) = z := ⟨_, rfl⟩
                rw [hs0] at cv0
                have z0 : s0.size = 0 := by rw [← hs0]; rfl
                have FIN := Lib.hid (show Located T i r w (.returned (.tuple #[.string ({ data := #[1] } ++ s0), .bool true])) w6 from by
                  refine ⟨HB.out, .inl ⟨fun _ => 0#8, fun q hq => absurd hq (by omega), fun _ _ q hq => absurd hq (by omega), ?_⟩⟩
                  rw [← hs0, h0]
                  rfl)
                have CV := Lib.hid cv0
                have H0 := Lib.hid h0
                clear hR hB ho0 hJ hs0 cv0 HR HB HO0 HJ h0
                go_wp2_with fail
                (with_reducible refine (SN.out _).mono ?_)
                rintro en w' ⟨rfl, rfl⟩
                go_wp2_with (simp only [CV.out])
                go_ret2
                exact FIN.out
              · obtain ⟨R, Cc, rfl, hMat⟩ := HR.out.mat (by omega)
                have SV := Lib.hid (rsolve_any w.heap.size R r Cc (r + 1) β γ mm (by omega) (by omega) rfl w6 hMat)
                clear hMat hR hB ho0 hJ HR HO0
                go_wp2_with fail
                (with_reducible refine SV.out.mono ?_)
                rintro en w3 ⟨hB3, h⟩
                have HB3 := Lib.hid (HB.out.trans hB3)
                rcases h with ⟨v, M', b0, hb0, rfl, hU, hE, hO⟩ | ⟨M', q, hq, rfl, hE, hU, hz⟩
                · have cv0 := own_back hO
                  have HS1 := (hE (fun r' => M' r' r) 1#8).2 ((Blk.unit_solves hU (fun r' => M' r' r) 1#8).2 (fun r' hr => by rw [Gal.mul_one]))
                  have HS2 : ∀ z, Blk.Solves mm r z 1#8 → ∀ r', r' < r → z r' = (fun r' => M' r' r) r' := fun z hz r' hr => by
                    have := (Blk.unit_solves hU z 1#8).1 ((hE z 1#8).1 hz) r' hr
                    rwa [Gal.mul_one] at this
                  obtain ⟨y, hy⟩ : ∃ y, (fun r' => M' r' r) = y := ⟨_, rfl⟩
                  rw [hy] at HS1 HS2 cv0
                  have z0 := coefs_size y r
                  obtain ⟨s0, hs0⟩ : ∃ z : ByteArray, (⟨(Gal.coefs y r).toArray⟩ : ByteArray) = z := ⟨_, rfl⟩
                  rw [hs0] at cv0 z0
                  have FIN := Lib.hid (show Located T i r w (.returned (.tuple #[.string ({ data := #[1] } ++ s0), .bool true])) w3 from by
                    refine ⟨HB3.out, .inl ⟨y, by rw [HMM.out]; exact HS1, by rw [HMM.out]; exact HS2, ?_⟩⟩
                    rw [← hs0]
                    congr 4)
                  have CV := Lib.hid cv0
                  clear hs0 cv0 HS1 HS2 hy hU hE hO SV hB3
                  go_wp2_with (simp only [CV.out])
                  go_ret2
                  exact FIN.out
                · have cv0 : (convert 41 9 (.slice none 0 0)).run Tryz.prog w3 = .ok (.string ⟨(Gal.coefs (fun _ => 0#8) 0).toArray⟩) w3 := own_back (World.ownsRow_nil w3 0 5 1)
                  obtain ⟨s0, hs0⟩ : ∃ z : ByteArray, (⟨(Gal.coefs (fun _ => 0#8) 0).toArray⟩ : ByteArray) = z := ⟨_, rfl⟩
                  rw [hs0] at cv0
                  have z0 : s0.size = 0 := by rw [← hs0]; rfl
                  have FIN := Lib.hid (show Located T i r w (.returned (.tuple #[.string ({ data := #[1] } ++ s0), .bool false])) w3 from by
                    obtain ⟨z, hz1, hz2⟩ := Blk.stuck_kernel hU hq hz
                    refine ⟨HB3.out, .inr ⟨z, q, hq, hz2, ?_, ?_⟩⟩
                    · rw [HMM.out]
                      exact (hE z 0#8).2 hz1
                    · rw [← hs0]
                      rfl)
                  have CV := Lib.hid cv0
                  clear hs0 cv0 hU hE hz SV hB3
                  go_wp2_with (simp only [CV.out])
                  go_ret2
                  exact FIN.out
set_option maxRecDepth 100000 in
set_option maxHeartbeats 1000000 in
theorem rlocator_none (b : ByteArray) (Pc : Nat) (l : List Nat) (k e L : Nat) (hl : l.length = k) (he : k + 2 * e ≤ 8) (hb : b.size = L) (hL : L ≤ 231) (hp : ∀ i, i < k → l.getD i 0 < L) (w : World) (hk0 : k = 0) :
    Calls Tryz.prog 31 #[.string b, .slice none k Pc, .int .i64 e] w (Located (twisted b.data.toList l) k e w) := by
  have HP := Lib.hid hp
  have HK0 := Lib.hid hk0
  have PW := Lib.hid (fun (k : Nat) w => power2_any (k : Nat) w)
  have TU := Lib.hid (fun w => turned_any b (by omega) w)
  have EV := Lib.hid (fun x w => reval_any ⟨b.data.toList.reverse.toArray⟩ x (by rw [sz, List.length_reverse, ls]; omega) w)
  have SE := Lib.hid (fun j => Blk.syn_eval b.data.toList j)
  have HL := Lib.hid hl
  have HBS := Lib.hid hb
  obtain ⟨S, hS⟩ : ∃ S, Blk.syn b.data.toList = S := ⟨_, rfl⟩
  have HT := Lib.hid (show twisted b.data.toList l = l.foldl (Blk.tstep (Blk.elem L)) (Gal.co (Gal.coefs S 8)) by unfold twisted Blk.twist; rw [ls, hb, hS])
  rw [hS] at SE
  obtain ⟨T, hT⟩ : ∃ T, twisted b.data.toList l = T := ⟨_, rfl⟩
  rw [hT] at HT ⊢
  clear hp hk0 hl hS hT
  go_enter Tryz.func31, Tryz.ntmps31
  go_wp2_with fail
  go_loopw [9, 10] (fun s u wr => ∃ j : Nat, j ≤ 8 ∧ u = .int .i64 j ∧ s = .string ⟨(Gal.coefs S j).toArray⟩ ∧ Below w.heap.size w wr) (fun _ u _ => 8 - (intOf u).toNat)
  case atStart => exact ⟨0, Nat.zero_le _, rfl, rfl, Below.refl _ _⟩
  case round =>
    obtain ⟨j, hj, rfl, rfl, hB⟩ := hrel
    by_cases hlt : j < 8
    · have tu := Lib.hid (TU.out wr)
      have CP := Lib.hid (fun w => PW.out j w)
      rw [Gal.pwi_nat] at CP
      have CE := Lib.hid (fun w => EV.out (Gal.pw j) w)
      obtain ⟨tb, htb⟩ : ∃ t : ByteArray, (⟨b.data.toList.reverse.toArray⟩ : ByteArray) = t := ⟨_, rfl⟩
      rw [htb] at tu CE
      have se := SE.out j
      rw [← se] at CE
      have cs := Lib.hid (show (⟨(Gal.coefs S j).toArray⟩ : ByteArray) ++ (⟨#[UInt8.ofBitVec (S j)]⟩ : ByteArray) = ⟨(Gal.coefs S (j + 1)).toArray⟩ by
        apply ByteArray.ext
        rw [ByteArray.data_append, Gal.coefs_succ]
        simp)
      have zs := coefs_size S j
      obtain ⟨pv, hpv⟩ : ∃ v, (Gal.pw j).toNat = v := ⟨_, rfl⟩
      rw [hpv] at CP CE
      have OS := Lib.hid (fun w => one_str w (S j))
      obtain ⟨v, hv⟩ : ∃ v, (S j).toNat = v := ⟨_, rfl⟩
      rw [hv] at CE OS
      obtain ⟨s1, hs1⟩ : ∃ z : ByteArray, (⟨(Gal.coefs S j).toArray⟩ : ByteArray) = z := ⟨_, rfl⟩
      obtain ⟨s2, hs2⟩ : ∃ z : ByteArray, (⟨#[UInt8.ofBitVec (S j)]⟩ : ByteArray) = z := ⟨_, rfl⟩
      have z2 : s2.size = 1 := by rw [← hs2]; rfl
      rw [hs1, hs2] at cs
      rw [hs2] at OS
      rw [hs1] at zs ⊢
      have HB := Lib.hid hB
      clear hB htb se hpv hv hs1 hs2
      go_wp2_with fail
      (with_reducible refine tu.out.mono ?_)
      rintro e w3 ⟨rfl, h3⟩
      have HB3 := Lib.hid (bt HB.out h3)
      clear h3
      go_wp2_with fail
      (with_reducible refine (CP.out _).mono ?_)
      rintro e w' ⟨rfl, rfl⟩
      go_wp2_with fail
      (with_reducible refine (CE.out _).mono ?_)
      rintro e w' ⟨rfl, rfl⟩
      have B4 := Lib.hid (ba HB3.out (.cells #[.int .u8 (v : Nat)] 5))
      have O4 := OS.out w3
      go_wp2_with fail
      go_roundw
      case rel => exact ⟨j + 1, by omega, by go_num, by rw [← cs.out], B4.out⟩
      case measure => simp [intOf]; omega
    · have J8 := Lib.hid (show j = 8 by omega)
      have HB := Lib.hid hB
      clear hB TU EV SE
      rename World => w1
      go_wp2_with fail
      go_loopw [9, 11] (fun s u wr => ∃ (i : Nat) (P : List UInt8), i ≤ k ∧ u = .int .i64 i ∧ s = .string ⟨P.toArray⟩ ∧ P.length ≤ 8 + 2 * i ∧ (∀ j, Gal.co P j = (l.take i).foldl (Blk.tstep (Blk.elem L)) (Gal.co (Gal.coefs S 8)) j) ∧ Below w.heap.size w wr) (fun _ u _ => k - (intOf u).toNat)
      case atStart => exact ⟨0, Gal.coefs S 8, Nat.zero_le _, rfl, by rw [← J8.out], by rw [Gal.coefs_length]; omega, fun _ => rfl, HB.out⟩
      case round =>
        obtain ⟨i, P, hi, rfl, rfl, hPl, hPT, hBq⟩ := hrel
        by_cases hik : i < k
        · exact absurd hik (by have := HK0.out; omega)
        · obtain rfl : i = k := by omega
          have HPT := Lib.hid (show ∀ j, Gal.co P j = T j from fun j => by rw [HT.out, hPT j, List.take_of_length_le (by rw [HL.out]; exact Nat.le_refl _)])
          have zp := sz P
          have ZP := Lib.hid hPl
          obtain ⟨i0, hi0, hz0, hz1, hz2⟩ := info_parts info_u8
          have HBQ := Lib.hid hBq
          rename World => w2
          have z2' := coefs_size (fun _ => 0#8) 16
          obtain ⟨s2, hs2⟩ : ∃ z : ByteArray, (⟨(Gal.coefs (fun _ => 0#8) 16).toArray⟩ : ByteArray) = z := ⟨_, rfl⟩
          obtain ⟨s1, hs1⟩ : ∃ z : ByteArray, (⟨P.toArray⟩ : ByteArray) = z := ⟨_, rfl⟩
          have HS2 := Lib.hid hs2
          have HS1 := Lib.hid hs1
          rw [hs2] at z2'
          rw [hs1] at zp ⊢
          obtain ⟨np, hnp⟩ : ∃ n, P.length = n := ⟨_, rfl⟩
          rw [hnp] at zp hPl
          have HNP := Lib.hid hnp
          clear hPT hBq PW hs1 hs2 hnp
          go_upto_region 11 with fail
          go_wp2_with (first
            | (at_make; refine wpList_make_full _ rfl _ _ 41 rfl w2.heap.size 5 i0 (.int .u8 0) 1 Tryz.underlying41 hi0 hz0 hz1 .i64 .i64 _ _ 16 rfl rfl (by first | rfl | omega) (by first | rfl | omega) (by rw [hz2]; omega) (by unfold maxLen; omega) (Nat.le_refl _) ?_; intro w5 hown hgrow; have cv := nums_back (f := fun _ => 0#8) 16 (madeNums hown); rw [HS2.out] at cv; have B5 := Lib.hid (HBQ.out.grown hgrow HBQ.out.size (fun k e => by cases e)); clear hown hgrow)
            | fail)
          have HTT' : ∀ j, Gal.co (s1 ++ s2).data.toList j = T j := fun j => by
            rw [← HS1.out, ← HS2.out, ← HPT.out, ByteArray.data_append]
            have := co_zeros P j
            simpa using this
          have zt : (s1 ++ s2).size = np + 16 := by rw [ByteArray.size_append]; omega
          obtain ⟨tS, htS⟩ : ∃ t, s1 ++ s2 = t := ⟨_, rfl⟩
          rw [htS] at HTT' zt ⊢
          have HTT := Lib.hid HTT'
          have HBY := Lib.hid (fun i h => byte_co tS i h)
          have M1 := Lib.hid (fun r c (h : c < e) => (show Blk.locM T i e r c = T (i + e + r - 1 - c) from if_pos h))
          have M2 := Lib.hid (fun r => (show Blk.locM T i e r e = T (i + e + r) from if_neg (Nat.lt_irrefl e)))
          obtain ⟨mm, hmm⟩ : ∃ mm, Blk.locM T i e = mm := ⟨_, rfl⟩
          rw [hmm] at M1 M2
          have HMM := Lib.hid hmm
          have HZT := Lib.hid zt
          have w5l : w.heap.size ≤ w5.heap.size := B5.out.size
          clear HTT' htS hmm cv zt z2' zp hi0 hz0 hz1 hz2 HP HL HT J8 HB HBQ HS1 HS2 HPT HNP ZP
          go_loopw [13, 14] (fun o u wr => ∃ (r J : Nat) (β γ : Nat → Nat), r ≤ e ∧ J = i + e + r ∧ u = .int .i64 J ∧ Rows wr w.heap.size o r (e + 1) β γ mm ∧ (r = 0 → o = .slice none 0 0) ∧ Below w.heap.size w wr) (fun _ u _ => i + 2 * e - (intOf u).toNat)
          case atStart => exact ⟨0, i + e, fun _ => 0, fun _ => 0, Nat.zero_le _, rfl, by go_num, Rows.nil _ _ _ _ _ _, fun _ => rfl, B5.out⟩
          case round =>
            obtain ⟨r, J, β, γ, hr, hJ, rfl, hR, ho0, hB⟩ := hrel
            have HR := Lib.hid hR
            have HB := Lib.hid hB
            have HO0 := Lib.hid ho0
            have HJ := Lib.hid hJ
            rename World => w6
            by_cases hre : r < e
            · have lt1 : (J : Int) < (i : Int) + 2 * (e : Int) := by omega
              clear hR hB ho0 hJ B5
              go_wp2_with fail
              go_loopw [15, 16] (fun o u wr => ∃ c C : Nat, c ≤ e ∧ C = c + 1 ∧ u = .int .i64 C ∧ wr.ownsRow w6.heap.size 5 1 o c (vals (mm r) c) ∧ Below w6.heap.size w6 wr) (fun _ u _ => e + 1 - (intOf u).toNat)
              case atStart => exact ⟨0, 1, Nat.zero_le _, rfl, rfl, World.ownsRow_nil _ _ _ _, Below.refl _ _⟩
              case round =>
                obtain ⟨c, C, hc, hC, rfl, hown, hBq⟩ := hrel
                have HC := Lib.hid hC
                by_cases hce : c < e
                · have ns := vals_succ (mm r) c
                  rw [M1.out r c hce] at ns
                  obtain ⟨t, ht⟩ : ∃ t, i + e + r - 1 - c = t := ⟨_, rfl⟩
                  rw [ht] at ns
                  have hJ := HJ.out
                  have lt2 : (C : Int) ≤ (e : Int) := by omega
                  have i3 : IntKind.i64.wrap ((J : Int) - (C : Int)) = (t : Int) := by rw [IntKind.wrap_i64]; omega
                  have zt := HZT.out
                  have ts : t < tS.size := by omega
                  have bi := HBY.out t ts
                  rw [HTT.out] at bi
                  obtain ⟨v, hv⟩ : ∃ v, (T t).toNat = v := ⟨_, rfl⟩
                  rw [hv] at bi ns
                  have NS := Lib.hid ns
                  have HO := Lib.hid hown
                  have HQ := Lib.hid hBq
                  have c9 : c ≤ 9 := by omega
                  obtain ⟨i0, hi0, hz0, hz1, hz2⟩ := info_parts info_u8
                  have B1 := Lib.hid (hBq.alloc hBq.size (.cells #[.int .u8 (v : Int)] 5))
                  clear ns hown hBq hv ht hC hJ zt
                  go_wp2_with (at_builtin; refine wpList_append_own _ rfl _ _ 41 rfl w6.heap.size 5 i0 (.int .u8 0) 1 1 Tryz.underlying41 hi0 hz0 hz1 hz2 rfl (by decide) _ _ _ rfl (HO.out.alloc _) ⟨wr.heap.size, 0, none⟩ 1 1 [.int .u8 (v : Int)] rfl rfl cell_one (by simp [Value.oneCell']) (by unfold maxLen; omega) (by omega) (by have := B1.out.size; simp at this ⊢; omega) ?_; intro v' w9 hown2 hgrow _; obtain ⟨g', cap', rfl⟩ := ownsRow_succ hown2; have HO2 := Lib.hid hown2; have BW2 := Lib.hid (B1.out.grown hgrow B1.out.size (fun k e => own_block_ge HO.out e)); clear hown2 hgrow)
                  go_roundw
                  case rel => exact ⟨c + 1, C + 1, by omega, by rw [HC.out], by go_num, by rw [NS.out]; exact HO2.out, BW2.out⟩
                  case measure => have := HC.out; simp [intOf]; omega
                · obtain rfl : c = e := by omega
                  have ns := vals_succ (mm r) c
                  rw [M2.out r] at ns
                  have lt2 : ¬ (C : Int) ≤ (c : Int) := by omega
                  have zt := HZT.out
                  have ts : J < tS.size := by have := HJ.out; omega
                  have bi := HBY.out J ts
                  rw [HTT.out] at bi
                  rw [← HJ.out] at ns
                  obtain ⟨v, hv⟩ : ∃ v, (T J).toNat = v := ⟨_, rfl⟩
                  rw [hv] at bi ns
                  have NS := Lib.hid ns
                  have HO3 := Lib.hid hown
                  have HQ3 := Lib.hid hBq
                  rename World => w3
                  obtain ⟨i0, hi0, hz0, hz1, hz2⟩ := info_parts info_u8
                  obtain ⟨j0, hj0, hy0, hy1, hy2⟩ := info_parts info_bytes
                  have B1 := Lib.hid (HQ3.out.alloc HQ3.out.size (.cells #[.int .u8 (v : Int)] 5))
                  clear ns hown hBq hv zt hC
                  go_wp2_with (first
                    | (at_builtin; refine wpList_append_own _ rfl _ _ 41 rfl w6.heap.size 5 i0 (.int .u8 0) 1 1 Tryz.underlying41 hi0 hz0 hz1 hz2 rfl (by decide) _ _ _ rfl (HO3.out.alloc _) ⟨w3.heap.size, 0, none⟩ 1 1 [.int .u8 (v : Int)] rfl rfl cell_one (by simp [Value.oneCell']) (by unfold maxLen; omega) (by omega) (by have := B1.out.size; simp at this ⊢; omega) ?_; intro v' w9 hown5 hgrow5 _; obtain ⟨g', cap', rfl⟩ := ownsRow_succ hown5; have BW5 := Lib.hid (B1.out.grown hgrow5 B1.out.size (fun k e => own_block_ge HO3.out e)); have HOA := Lib.hid (hown5.alloc (.cells #[.slice (some ⟨g', 0, none⟩) (c + 1) cap'] 41)); have RA := Lib.hid (HR.out.below (ba BW5.out (.cells #[.slice (some ⟨g', 0, none⟩) (c + 1) cap'] 41))); have BA := Lib.hid (HB.out.trans ((ba BW5.out (.cells #[.slice (some ⟨g', 0, none⟩) (c + 1) cap'] 41)).mono HB.out.size)); clear hown5 hgrow5)
                    | (at_builtin; refine wpList_append_own _ rfl _ _ 76 rfl w.heap.size 41 j0 (.slice none 0 0) 1 24 Tryz.underlying76 hj0 hy0 hy1 hy2 rfl (by decide) _ _ _ rfl RA.out.own ⟨w9.heap.size, 0, none⟩ 1 1 [.slice (some ⟨g', 0, none⟩) (c + 1) cap'] rfl rfl cell_one (by simp [Value.oneCell']) (by unfold maxLen; omega) (by omega) BA.out.size ?_; intro v'' w10 hown6 hgrow6 _; have RP := Lib.hid (RA.out.push (b1 := w6.heap.size) (fun i hi => (own_at (HR.out.row i hi)).2.1) HB.out.size (f := mm r) (by rw [NS.out]; exact HOA.out) (fun _ _ => rfl) hown6 hgrow6); have BW6 := Lib.hid (BA.out.grown hgrow6 BA.out.size (fun k e => own_block_ge RA.out.own e)); clear hown6 hgrow6))
                  go_roundw
                  case rel => exact ⟨r + 1, J + 1, _, _, by omega, by rw [HJ.out]; omega, by go_num, RP.out, fun h => absurd h (Nat.succ_ne_zero r), BW6.out⟩
                  case measure => have := HJ.out; simp [intOf]; omega
            · obtain rfl : r = e := by omega
              have lt1 : ¬ (J : Int) < (i : Int) + 2 * (r : Int) := by omega
              clear B5 HBY HTT M1 M2 HZT
              have o1 : ({ data := #[1] } : ByteArray).size = 1 := rfl
              by_cases h0 : r = 0
              · obtain rfl := HO0.out h0
                have SN := Lib.hid (fun w => rsolve_nil w)
                have cv0 : (convert 41 9 (.slice none 0 0)).run Tryz.prog w6 = .ok (.string ⟨(Gal.coefs (fun _ => 0#8) 0).toArray⟩) w6 := own_back (World.ownsRow_nil w6 0 5 1)
                obtain ⟨s0, hs0⟩ : ∃ z : ByteArray, (⟨(Gal.coefs (fun _ => 0#8) 0).toArray⟩ : ByteArray) = z := ⟨_, rfl⟩
                rw [hs0] at cv0
                have z0 : s0.size = 0 := by rw [← hs0]; rfl
                have FIN := Lib.hid (show Located T i r w (.returned (.tuple #[.string ({ data := #[1] } ++ s0), .bool true])) w6 from by
                  refine ⟨HB.out, .inl ⟨fun _ => 0#8, fun q hq => absurd hq (by omega), fun _ _ q hq => absurd hq (by omega), ?_⟩⟩
                  rw [← hs0, h0]
                  rfl)
                have CV := Lib.hid cv0
                have H0 := Lib.hid h0
                clear hR hB ho0 hJ hs0 cv0 HR HB HO0 HJ h0
                go_wp2_with fail
                (with_reducible refine (SN.out _).mono ?_)
                rintro en w' ⟨rfl, rfl⟩
                go_wp2_with (simp only [CV.out])
                go_ret2
                exact FIN.out
              · obtain ⟨R, Cc, rfl, hMat⟩ := HR.out.mat (by omega)
                have SV := Lib.hid (rsolve_any w.heap.size R r Cc (r + 1) β γ mm (by omega) (by omega) rfl w6 hMat)
                clear hMat hR hB ho0 hJ HR HO0
                go_wp2_with fail
                (with_reducible refine SV.out.mono ?_)
                rintro en w3 ⟨hB3, h⟩
                have HB3 := Lib.hid (HB.out.trans hB3)
                rcases h with ⟨v, M', b0, hb0, rfl, hU, hE, hO⟩ | ⟨M', q, hq, rfl, hE, hU, hz⟩
                · have cv0 := own_back hO
                  have HS1 := (hE (fun r' => M' r' r) 1#8).2 ((Blk.unit_solves hU (fun r' => M' r' r) 1#8).2 (fun r' hr => by rw [Gal.mul_one]))
                  have HS2 : ∀ z, Blk.Solves mm r z 1#8 → ∀ r', r' < r → z r' = (fun r' => M' r' r) r' := fun z hz r' hr => by
                    have := (Blk.unit_solves hU z 1#8).1 ((hE z 1#8).1 hz) r' hr
                    rwa [Gal.mul_one] at this
                  obtain ⟨y, hy⟩ : ∃ y, (fun r' => M' r' r) = y := ⟨_, rfl⟩
                  rw [hy] at HS1 HS2 cv0
                  have z0 := coefs_size y r
                  obtain ⟨s0, hs0⟩ : ∃ z : ByteArray, (⟨(Gal.coefs y r).toArray⟩ : ByteArray) = z := ⟨_, rfl⟩
                  rw [hs0] at cv0 z0
                  have FIN := Lib.hid (show Located T i r w (.returned (.tuple #[.string ({ data := #[1] } ++ s0), .bool true])) w3 from by
                    refine ⟨HB3.out, .inl ⟨y, by rw [HMM.out]; exact HS1, by rw [HMM.out]; exact HS2, ?_⟩⟩
                    rw [← hs0]
                    congr 4)
                  have CV := Lib.hid cv0
                  clear hs0 cv0 HS1 HS2 hy hU hE hO SV hB3
                  go_wp2_with (simp only [CV.out])
                  go_ret2
                  exact FIN.out
                · have cv0 : (convert 41 9 (.slice none 0 0)).run Tryz.prog w3 = .ok (.string ⟨(Gal.coefs (fun _ => 0#8) 0).toArray⟩) w3 := own_back (World.ownsRow_nil w3 0 5 1)
                  obtain ⟨s0, hs0⟩ : ∃ z : ByteArray, (⟨(Gal.coefs (fun _ => 0#8) 0).toArray⟩ : ByteArray) = z := ⟨_, rfl⟩
                  rw [hs0] at cv0
                  have z0 : s0.size = 0 := by rw [← hs0]; rfl
                  have FIN := Lib.hid (show Located T i r w (.returned (.tuple #[.string ({ data := #[1] } ++ s0), .bool false])) w3 from by
                    obtain ⟨z, hz1, hz2⟩ := Blk.stuck_kernel hU hq hz
                    refine ⟨HB3.out, .inr ⟨z, q, hq, hz2, ?_, ?_⟩⟩
                    · rw [HMM.out]
                      exact (hE z 0#8).2 hz1
                    · rw [← hs0]
                      rfl)
                  have CV := Lib.hid cv0
                  clear hs0 cv0 hU hE hz SV hB3
                  go_wp2_with (simp only [CV.out])
                  go_ret2
                  exact FIN.out
end Go.Proofs.YtlpjhmafplljaaaGreatDoor
/- What the reference's locator and mended come to: plain mathematics. -/
namespace Go.Proofs.YtlpjhmafplljaaaGreatDoor
set_option linter.unusedVariables false
namespace Blk
open Gal (co)
theorem tstep_low (X S S' : Nat → BitVec 8) (q : Nat) (h : ∀ j, j < 8 → S j = S' j) : ∀ j, j < 8 → tstep X S q j = tstep X S' q j := fun j hj => by
  unfold tstep Gal.sh
  rw [h j hj]
  by_cases e : 1 ≤ j
  · rw [if_pos e, if_pos e, h (j - 1) (by omega)]
  · rw [if_neg e, if_neg e]
theorem twist_low (X : Nat → BitVec 8) : ∀ (f : List Nat) (S S' : Nat → BitVec 8), (∀ j, j < 8 → S j = S' j) → ∀ j, j < 8 → twist X f S j = twist X f S' j
  | [], S, S', h => h
  | q :: f, S, S', h => fun j hj => by
    show twist X f (tstep X S q) j = twist X f (tstep X S' q) j
    exact twist_low X f _ _ (tstep_low X S S' q h) j hj
/-- The string's syndromes are the syndromes. -/
theorem twisted_low (b : List UInt8) (f : List Nat) : ∀ j, j < 8 → twisted b f j = twist (elem b.length) f (syn b) j :=
  twist_low _ f _ _ (fun j hj => by rw [Gal.co_coefs, if_pos hj])
theorem patch_out (b : List UInt8) (l : List Nat) (y : Nat → BitVec 8) {p : Nat} : ∀ k, (∀ i, i < k → p ≠ l.getD i 0) → patch b l y k p = co b p
  | 0, _ => rfl
  | k + 1, h => by
    show (if p = l.getD k 0 then _ else _) = _
    rw [if_neg (h k (by omega))]
    exact patch_out b l y k (fun i hi => h i (by omega))
theorem patch_in (b : List UInt8) (l : List Nat) (y : Nat → BitVec 8) (hd : ∀ i j, i < l.length → j < l.length → l.getD i 0 = l.getD j 0 → i = j) : ∀ k, k ≤ l.length → ∀ i, i < k → patch b l y k (l.getD i 0) = co b (l.getD i 0) ^^^ y i
  | 0, _, i, hi => absurd hi (Nat.not_lt_zero _)
  | k + 1, hk, i, hi => by
    show (if l.getD i 0 = l.getD k 0 then _ else _) = _
    by_cases e : i = k
    · subst e
      rw [if_pos rfl, patch_out b l y i (fun j hj q => by have := hd i j (by omega) (by omega) q; omega)]
    · rw [if_neg (fun q => e (hd i k (by omega) (by omega) q))]
      exact patch_in b l y hd k (by omega) i (by omega)
theorem nodup_getD {l : List Nat} (h : l.Nodup) : ∀ i j, i < l.length → j < l.length → l.getD i 0 = l.getD j 0 → i = j := fun i j hi hj e => by
  rw [List.getD_eq_getElem?_getD, List.getD_eq_getElem?_getD, List.getElem?_eq_getElem hi, List.getElem?_eq_getElem hj, Option.getD_some, Option.getD_some] at e
  have h1 := h.idxOf_getElem i hi
  have h2 := h.idxOf_getElem j hj
  rw [e, h2] at h1
  exact h1.symm
theorem mem_getD {l : List Nat} {p : Nat} (h : p ∈ l) : ∃ i, i < l.length ∧ l.getD i 0 = p := by
  obtain ⟨i, hi, e⟩ := List.getElem_of_mem h
  exact ⟨i, hi, by rw [List.getD_eq_getElem?_getD, List.getElem?_eq_getElem hi, Option.getD_some, e]⟩
/-- The right bytes at the right places make the code block. -/
theorem patch_found {b c : List UInt8} {l : List Nat} {y : Nat → BitVec 8} (hl : c.length = b.length) (hd : l.Nodup) (ho : ∀ p, p < b.length → p ∉ l → co b p = co c p) (hy : ∀ i, i < l.length → y i = dlt b c (l.getD i 0)) : Gal.coefs (patch b l y l.length) b.length = c := by
  refine Gal.ext (by rw [Gal.coefs_length, hl]) (fun p hp => ?_)
  rw [Gal.coefs_length] at hp
  rw [Gal.co_coefs, if_pos hp]
  by_cases h : p ∈ l
  · obtain ⟨i, hi, rfl⟩ := mem_getD h
    rw [patch_in b l y (nodup_getD hd) _ (Nat.le_refl _) i hi, hy i hi]
    unfold dlt
    rw [← BitVec.xor_assoc, BitVec.xor_self, BitVec.zero_xor]
  · rw [patch_out b l y _ (fun i hi e => h (by
      rw [e, List.getD_eq_getElem?_getD, List.getElem?_eq_getElem hi, Option.getD_some]
      exact List.getElem_mem hi)), ho p hp h]
/-- Whatever is put there, other places stay. -/
theorem patch_places {b : List UInt8} {l : List Nat} {y : Nat → BitVec 8} {p : Nat} (hp : p < b.length) (h : co b p ≠ co (Gal.coefs (patch b l y l.length) b.length) p) : p ∈ l := by
  apply Classical.byContradiction
  intro hn
  apply h
  rw [Gal.co_coefs, if_pos hp, patch_out b l y _ (fun i hi e => hn (by
    rw [e, List.getD_eq_getElem?_getD, List.getElem?_eq_getElem hi, Option.getD_some]
    exact List.getElem_mem hi))]
/-- Soundness: a code block made by bytes at the erased places and at e others. -/
theorem patch_near {b : List UInt8} {f g : List Nat} {y : Nat → BitVec 8} (hc : Code (Gal.coefs (patch b (f ++ g) y (f ++ g).length) b.length)) (he : f.length + 2 * g.length ≤ 8) : Near b f (Gal.coefs (patch b (f ++ g) y (f ++ g).length) b.length) :=
  near_of_places hc (Gal.coefs_length _ _) g.length (Nat.le_refl _) he (fun p hp hne hf => by
    have := patch_places hp hne
    rcases List.mem_append.1 this with h | h
    · exact absurd h hf
    · exact h)
end Blk
end Go.Proofs.YtlpjhmafplljaaaGreatDoor
/- The right round of the reference's Decode finds the answer: plain mathematics. -/
namespace Go.Proofs.YtlpjhmafplljaaaGreatDoor
set_option linter.unusedVariables false
namespace Blk
open Gal (co mul)
theorem locM_low (b : List UInt8) (f : List Nat) {k e : Nat} (h : k + 2 * e ≤ 8) : ∀ r c, r < e → c ≤ e → locM (twisted b f) k e r c = locM (twist (elem b.length) f (syn b)) k e r c := fun r c hr hc => by
  unfold locM
  by_cases q : c < e
  · rw [if_pos q, if_pos q, twisted_low b f _ (by omega)]
  · rw [if_neg q, if_neg q, twisted_low b f _ (by omega)]
section
variable {b c : List UInt8} {f : List Nat} (h : Near b f c) (hn : b.length ≤ 255) (hf : ∀ q, q ∈ f → q < b.length)
include h hn hf
/-- The locator solves the string's system. -/
theorem round_solves : Solves (locM (twisted b f) f.length (besides b c f)) (besides b c f) (fun i => lam (elem b.length) (wrong b c f) (i + 1)) 1#8 := by
  have h3 := h.2.2
  exact (Equiv.of_eq (locM_low b f (by omega)) _ _).2 (loc_found h.1 h.2.1 hn hf (by omega)).1
/-- The string's system sends nothing else to 0. -/
theorem round_kernel (z : Nat → BitVec 8) (hz : Solves (locM (twisted b f) f.length (besides b c f)) (besides b c f) z 0#8) : ∀ i, i < besides b c f → z i = 0#8 := by
  have h3 := h.2.2
  exact (loc_found h.1 h.2.1 hn hf (by omega)).2 z ((Equiv.of_eq (locM_low b f (by omega)) _ _).1 hz)
omit h hf in
theorem round_root (y : Nat → BitVec 8) (hy : ∀ r, r < besides b c f → lam (elem b.length) (wrong b c f) (r + 1) = y r) {p : Nat} (hp : p < b.length) :
    Gal.evalV (1 :: Gal.coefs y (besides b c f)) (elemI b.length p) = 0#8 ↔ p ∈ wrong b c f := by
  have e : Gal.evalV (1 :: Gal.coefs y (besides b c f)) (elemI b.length p) = Gal.evl (lam (elem b.length) (wrong b c f)) (elemI b.length p) ((wrong b c f).length + 1) := by
    unfold Gal.evalV
    rw [List.length_cons, Gal.coefs_length, wrong_length]
    refine evl_cong _ (fun i hi => ?_)
    match i, hi with
    | 0, _ => rw [lam_zero]; rfl
    | i + 1, hi =>
      rw [show co (1 :: Gal.coefs y (besides b c f)) (i + 1) = co (Gal.coefs y (besides b c f)) i from rfl, Gal.co_coefs, if_pos (by omega), hy i (by omega)]
  rw [e]
  exact root_iff hn hp _ (fun q hq => (mem_wrong.1 hq).1)
omit h hf in
/-- The places that the round takes besides the erased ones. -/
theorem round_places (y : Nat → BitVec 8) (hy : ∀ r, r < besides b c f → lam (elem b.length) (wrong b c f) (r + 1) = y r) :
    (List.range b.length).filter (fun i => !f.contains i && decide (Gal.evalV (1 :: Gal.coefs y (besides b c f)) (elemI b.length i) = 0#8)) = wrong b c f := by
  have key : ∀ i, i ∈ List.range b.length → (!f.contains i && decide (Gal.evalV (1 :: Gal.coefs y (besides b c f)) (elemI b.length i) = 0#8)) = (decide (co b i ≠ co c i) && !f.contains i) := fun i hi => by
    have hi' := List.mem_range.1 hi
    have r := round_root hn y hy hi'
    rw [mem_wrong] at r
    rw [Bool.eq_iff_iff, Bool.and_eq_true, Bool.and_eq_true, decide_eq_true_eq, decide_eq_true_eq, Bool.not_eq_true', ← Bool.not_eq_true, List.contains_iff_mem, r]
    exact ⟨fun q => ⟨q.2.2.1, q.1⟩, fun q => ⟨q.2, hi', q.1, q.2⟩⟩
  exact List.filter_congr key
/-- The right bytes are the only ones, and they make the code block. -/
theorem round_mends (hd : f.Nodup) : Solves (mendM b (f ++ wrong b c f)) (f ++ wrong b c f).length (fun k => dlt b c ((f ++ wrong b c f).getD k 0)) 1#8 ∧
    (∀ z, Solves (mendM b (f ++ wrong b c f)) (f ++ wrong b c f).length z 0#8 → ∀ i, i < (f ++ wrong b c f).length → z i = 0#8) ∧
    (∀ y, (∀ i, i < (f ++ wrong b c f).length → y i = dlt b c ((f ++ wrong b c f).getD i 0)) → Gal.coefs (patch b (f ++ wrong b c f) y (f ++ wrong b c f).length) b.length = c) := by
  have h3 := h.2.2
  have nd : (f ++ wrong b c f).Nodup := List.nodup_append.2 ⟨hd, wrong_nodup b c f, fun x hx y hy e => (mem_wrong.1 hy).2.2 (e ▸ hx)⟩
  have pl : ∀ q, q ∈ f ++ wrong b c f → q < b.length := fun q hq => by
    rcases List.mem_append.1 hq with g | g
    · exact hf q g
    · exact (mem_wrong.1 g).1
  have l8 : (f ++ wrong b c f).length ≤ 8 := by rw [List.length_append, wrong_length]; omega
  have out : ∀ p, p < b.length → p ∉ f ++ wrong b c f → co b p = co c p := fun p hp hm => by
    apply Classical.byContradiction
    intro ne
    exact hm (List.mem_append.2 (.inr (mem_wrong.2 ⟨hp, ne, fun q => hm (List.mem_append.2 (.inl q))⟩)))
  obtain ⟨s1, s2⟩ := mend_found h.1 h.2.1 hn nd pl l8 out
  exact ⟨s1, s2, fun y hy => patch_found h.2.1 nd out hy⟩
end
end Blk
end Go.Proofs.YtlpjhmafplljaaaGreatDoor
/- The region of perigeeref05's Decode that draws its order. -/
namespace Go.Proofs.YtlpjhmafplljaaaGreatDoor
open Go.RowKit
set_option linter.unusedVariables false

structure DecEnd (b c : ByteArray) (L : Nat) (A : Act) (w0 : World) (s : Nat → Bool) (a : Act) (w : World) : Prop where
  off : Off [121, 122, 123, 124, 125, 126, 127, 128, 4, 5, 6] a A
  before : Below w0.heap.size w0 w
  t0 : s 0 = true → a.eval (.tmp 121) = .string c
  t1 : s 1 = true → a.eval (.tmp 122) = .string c
  t2 : s 2 = true → a.eval (.tmp 123) = .int .i64 (L : Nat)
  t3 : s 3 = true → a.eval (.tmp 124) = .int .i64 (L - 8 : Nat)
  t4 : s 4 = true → a.eval (.tmp 125) = .string (c.extract 0 (L - 8))
  t5 : s 5 = true → a.eval (.tmp 126) = .string b
  t6 : s 6 = true → a.eval (.tmp 127) = .string c
  t7 : s 7 = true → a.eval (.tmp 128) = .int .i64 ((Blk.dif b.data.toList c.data.toList).length : Nat)
  t8 : s 8 = true → a.eval (.tmp 4) = .string (c.extract 0 (L - 8))
  t9 : s 9 = true → a.eval (.tmp 5) = .int .i64 ((Blk.dif b.data.toList c.data.toList).length : Nat)
  t10 : s 10 = true → a.eval (.tmp 6) = .int .i64 0
set_option maxHeartbeats 2000000 in
set_option maxRecDepth 100000 in
theorem decEnd {id : Nat} {d : Bool} {l : List Oper} {A : Act} {w : World} {Q : Exit → Act → World → Prop} (b c : ByteArray) (L : Nat)
    (hb : b.size = L) (hc : c.size = L) (h9 : 9 ≤ L) (hL : L ≤ 231)
    (hB : tableL d l.toArray (fun i => match i with | 0 => [] | 1 => [] | 2 => [1] | 3 => [2] | 4 => [0, 3] | 5 => [] | 6 => [] | 7 => [5, 6] | 8 => [4] | 9 => [7] | 10 => [] | _ => []) (fun i => match i with | 0 => [] | 1 => [] | 2 => [] | 3 => [] | 4 => [] | 5 => [] | 6 => [] | 7 => [] | 8 => [] | 9 => [] | 10 => [] | _ => []) = true) (hl : l.length = 11)
    (h0 : pick l 0 = some (.move (.tmp 14), some 121))
    (h1 : pick l 1 = some (.move (.tmp 14), some 122))
    (h2 : pick l 2 = some (.call { callee := .builtin .len, args := #[.tmp 122], argTypes := #[9] }, some 123))
    (h3 : pick l 3 = some (.binOp .sub 3 (.tmp 123) (.const (.int .i64 8)) 3, some 124))
    (h4 : pick l 4 = some (.slice 9 (.tmp 121) none (some (.tmp 124)) none, some 125))
    (h5 : pick l 5 = some (.move (.tmp 0), some 126))
    (h6 : pick l 6 = some (.move (.tmp 14), some 127))
    (h7 : pick l 7 = some (.call { callee := .value (.func 35), args := #[.tmp 126, .tmp 127], argTypes := #[9, 9] }, some 128))
    (h8 : pick l 8 = some (.assign (.tmp 125), some 4))
    (h9 : pick l 9 = some (.assign (.tmp 128), some 5))
    (h10 : pick l 10 = some (.assign (.const (.int .i64 0)), some 6))
    (hs : A.tmps.size = 129)
    (x0 : A.eval (.tmp 0) = .string b)
    (x14 : A.eval (.tmp 14) = .string c)
    (h : ∀ w1, Below w.heap.size w w1 → Q .normal (((((((((((A.put (some 121) (.string c)).put (some 122) (.string c)).put (some 123) (.int .i64 (L : Nat))).put (some 124) (.int .i64 (L - 8 : Nat))).put (some 125) (.string (c.extract 0 (L - 8)))).put (some 126) (.string b)).put (some 127) (.string c)).put (some 128) (.int .i64 ((Blk.dif b.data.toList c.data.toList).length : Nat))).put (some 4) (.string (c.extract 0 (L - 8)))).put (some 5) (.int .i64 ((Blk.dif b.data.toList c.data.toList).length : Nat))).put (some 6) (.int .i64 0)) w1) :
    (Code.region id l.toArray d).wp Tryz.prog Q A w := by
  refine wp_region_invL (by kernel_rfl) _ _ hB (DecEnd b c L A w) ⟨Off.refl _ _, Below.refl _ _, by simp, by simp, by simp, by simp, by simp, by simp, by simp, by simp, by simp, by simp, by simp⟩ ⟨Off.refl _ _, (Below.refl _ _).drew, by simp, by simp, by simp, by simp, by simp, by simp, by simp, by simp, by simp, by simp, by simp⟩ ?_ ?_
  · intro s a w' S i' o ho hsi hT K hK
    have sz : a.tmps.size = 129 := by rw [S.off.2.1]; exact hs
    have il : i' < 11 := by have := (List.getElem?_eq_some_iff.1 ho).1; omega
    have y0 : a.eval (.tmp 0) = .string b := by rw [S.off.eval (by decide)]; exact x0
    have y14 : a.eval (.tmp 14) = .string c := by rw [S.off.eval (by decide)]; exact x14
    match i', il, ho, hsi, hT with
    | 0, _, ho, hsi, hT =>
      obtain ⟨e1, e2⟩ := pick_of h0 ho
      have BW := S.before
      refine step_val (v := .string c) (by simp only [execOp, e1, y14]; go_simp) (hK _ _ ?_)
      rw [e2]
      exact ⟨S.off.put (by decide) _, S.before, fun _ => (eval_put _ _ _ (by omega)).trans rfl, kp S.t1, kp S.t2, kp S.t3, kp S.t4, kp S.t5, kp S.t6, kp S.t7, kp S.t8, kp S.t9, kp S.t10⟩
    | 1, _, ho, hsi, hT =>
      obtain ⟨e1, e2⟩ := pick_of h1 ho
      have BW := S.before
      refine step_val (v := .string c) (by simp only [execOp, e1, y14]; go_simp) (hK _ _ ?_)
      rw [e2]
      exact ⟨S.off.put (by decide) _, S.before, kp S.t0, fun _ => (eval_put _ _ _ (by omega)).trans rfl, kp S.t2, kp S.t3, kp S.t4, kp S.t5, kp S.t6, kp S.t7, kp S.t8, kp S.t9, kp S.t10⟩
    | 2, _, ho, hsi, hT =>
      obtain ⟨e1, e2⟩ := pick_of h2 ho
      have D1 : s 1 = true := list_pos hT (d := 1) (by decide)
      have BW := S.before
      have q1 : a.tmps[122]'(by omega) = .string c := by have := S.t1 D1; simpa [Act.eval, sz] using this
      refine step_val (v := .int .i64 (L : Nat)) (by simp only [execOp, e1]; go_simp) (hK _ _ ?_)
      rw [e2]
      exact ⟨S.off.put (by decide) _, S.before, kp S.t0, kp S.t1, fun _ => (eval_put _ _ _ (by omega)).trans rfl, kp S.t3, kp S.t4, kp S.t5, kp S.t6, kp S.t7, kp S.t8, kp S.t9, kp S.t10⟩
    | 3, _, ho, hsi, hT =>
      obtain ⟨e1, e2⟩ := pick_of h3 ho
      have D2 : s 2 = true := list_pos hT (d := 2) (by decide)
      have BW := S.before
      refine step_val (v := .int .i64 (L - 8 : Nat)) (by simp only [execOp, e1, S.t2 D2]; go_simp; rw [IntKind.wrap_i64]; omega) (hK _ _ ?_)
      rw [e2]
      exact ⟨S.off.put (by decide) _, S.before, kp S.t0, kp S.t1, kp S.t2, fun _ => (eval_put _ _ _ (by omega)).trans rfl, kp S.t4, kp S.t5, kp S.t6, kp S.t7, kp S.t8, kp S.t9, kp S.t10⟩
    | 4, _, ho, hsi, hT =>
      obtain ⟨e1, e2⟩ := pick_of h4 ho
      have D0 : s 0 = true := list_pos hT (d := 0) (by decide)
      have D3 : s 3 = true := list_pos hT (d := 3) (by decide)
      have BW := S.before
      refine step_val (v := .string (c.extract 0 (L - 8))) (by simp only [execOp, e1, Option.map_some, Option.map_none, S.t0 D0, S.t3 D3]; go_simp) (hK _ _ ?_)
      rw [e2]
      exact ⟨S.off.put (by decide) _, S.before, kp S.t0, kp S.t1, kp S.t2, kp S.t3, fun _ => (eval_put _ _ _ (by omega)).trans rfl, kp S.t5, kp S.t6, kp S.t7, kp S.t8, kp S.t9, kp S.t10⟩
    | 5, _, ho, hsi, hT =>
      obtain ⟨e1, e2⟩ := pick_of h5 ho
      have BW := S.before
      refine step_val (v := .string b) (by simp only [execOp, e1, y0]; go_simp) (hK _ _ ?_)
      rw [e2]
      exact ⟨S.off.put (by decide) _, S.before, kp S.t0, kp S.t1, kp S.t2, kp S.t3, kp S.t4, fun _ => (eval_put _ _ _ (by omega)).trans rfl, kp S.t6, kp S.t7, kp S.t8, kp S.t9, kp S.t10⟩
    | 6, _, ho, hsi, hT =>
      obtain ⟨e1, e2⟩ := pick_of h6 ho
      have BW := S.before
      refine step_val (v := .string c) (by simp only [execOp, e1, y14]; go_simp) (hK _ _ ?_)
      rw [e2]
      exact ⟨S.off.put (by decide) _, S.before, kp S.t0, kp S.t1, kp S.t2, kp S.t3, kp S.t4, kp S.t5, fun _ => (eval_put _ _ _ (by omega)).trans rfl, kp S.t7, kp S.t8, kp S.t9, kp S.t10⟩
    | 7, _, ho, hsi, hT =>
      obtain ⟨e1, e2⟩ := pick_of h7 ho
      have D5 : s 5 = true := list_pos hT (d := 5) (by decide)
      have D6 : s 6 = true := list_pos hT (d := 6) (by decide)
      have BW := S.before
      refine step_call 35 (fun args w => by go_simp) _ _ e1 #[.string b, .string c] (by simp only [List.map_toArray, List.map_cons, List.map_nil, S.t5 D5, S.t6 D6]) ((differ_any b c L hb hc (by omega) _).mono ?_)
      rintro e w2 ⟨rfl, BB⟩
      refine ⟨_, rfl, hK _ _ ?_⟩
      rw [e2]
      exact ⟨S.off.put (by decide) _, bt BW BB, kp S.t0, kp S.t1, kp S.t2, kp S.t3, kp S.t4, kp S.t5, kp S.t6, fun _ => (eval_put _ _ _ (by omega)).trans rfl, kp S.t8, kp S.t9, kp S.t10⟩
    | 8, _, ho, hsi, hT =>
      obtain ⟨e1, e2⟩ := pick_of h8 ho
      have D4 : s 4 = true := list_pos hT (d := 4) (by decide)
      have BW := S.before
      refine step_val (v := .string (c.extract 0 (L - 8))) (by simp only [execOp, e1, S.t4 D4]; go_simp) (hK _ _ ?_)
      rw [e2]
      exact ⟨S.off.put (by decide) _, S.before, kp S.t0, kp S.t1, kp S.t2, kp S.t3, kp S.t4, kp S.t5, kp S.t6, kp S.t7, fun _ => (eval_put _ _ _ (by omega)).trans rfl, kp S.t9, kp S.t10⟩
    | 9, _, ho, hsi, hT =>
      obtain ⟨e1, e2⟩ := pick_of h9 ho
      have D7 : s 7 = true := list_pos hT (d := 7) (by decide)
      have BW := S.before
      refine step_val (v := .int .i64 ((Blk.dif b.data.toList c.data.toList).length : Nat)) (by simp only [execOp, e1, S.t7 D7]; go_simp) (hK _ _ ?_)
      rw [e2]
      exact ⟨S.off.put (by decide) _, S.before, kp S.t0, kp S.t1, kp S.t2, kp S.t3, kp S.t4, kp S.t5, kp S.t6, kp S.t7, kp S.t8, fun _ => (eval_put _ _ _ (by omega)).trans rfl, kp S.t10⟩
    | 10, _, ho, hsi, hT =>
      obtain ⟨e1, e2⟩ := pick_of h10 ho
      have BW := S.before
      refine step_val (v := .int .i64 0) (by simp only [execOp, e1]; go_simp) (hK _ _ ?_)
      rw [e2]
      exact ⟨S.off.put (by decide) _, S.before, kp S.t0, kp S.t1, kp S.t2, kp S.t3, kp S.t4, kp S.t5, kp S.t6, kp S.t7, kp S.t8, kp S.t9, fun _ => (eval_put _ _ _ (by omega)).trans rfl⟩
  · intro s a w' S hall
    have a0 := hall 0 (by omega)
    have a1 := hall 1 (by omega)
    have a2 := hall 2 (by omega)
    have a3 := hall 3 (by omega)
    have a4 := hall 4 (by omega)
    have a5 := hall 5 (by omega)
    have a6 := hall 6 (by omega)
    have a7 := hall 7 (by omega)
    have a8 := hall 8 (by omega)
    have a9 := hall 9 (by omega)
    have a10 := hall 10 (by omega)
    have e := off_norm _ (by intro d hd; simp at hd; omega) S.off
    simp only [List.foldl, S.t0 a0, S.t1 a1, S.t2 a2, S.t3 a3, S.t4 a4, S.t5 a5, S.t6 a6, S.t7 a7, S.t8 a8, S.t9 a9, S.t10 a10] at e
    rw [e]
    exact h _ S.before
end Go.Proofs.YtlpjhmafplljaaaGreatDoor
/- The reference's Decode, round by round: plain mathematics. -/
namespace Go.Proofs.YtlpjhmafplljaaaGreatDoor
set_option linter.unusedVariables false
namespace Blk
open Gal (co mul)
/-- Is the place taken, besides the erased ones? -/
def Pl (b : List UInt8) (f : List Nat) (y : Nat → BitVec 8) (e i : Nat) : Bool := !f.contains i && decide (0 < e) && decide (Gal.evalV (1 :: Gal.coefs y e) (elemI b.length i) = 0#8)
/-- The first places that are taken. -/
def gs (b : List UInt8) (f : List Nat) (y : Nat → BitVec 8) (e k : Nat) : List Nat := (List.range k).filter (Pl b f y e)
theorem gs_zero (b : List UInt8) (f : List Nat) (y : Nat → BitVec 8) (e : Nat) : gs b f y e 0 = [] := rfl
theorem gs_yes {b : List UInt8} {f : List Nat} {y : Nat → BitVec 8} {e k : Nat} (h : Pl b f y e k = true) : gs b f y e (k + 1) = gs b f y e k ++ [k] := by
  unfold gs
  rw [List.range_succ, List.filter_append]
  simp [h]
theorem gs_no {b : List UInt8} {f : List Nat} {y : Nat → BitVec 8} {e k : Nat} (h : Pl b f y e k = false) : gs b f y e (k + 1) = gs b f y e k := by
  unfold gs
  rw [List.range_succ, List.filter_append]
  simp [h]
theorem gs_len (b : List UInt8) (f : List Nat) (y : Nat → BitVec 8) (e k : Nat) : (gs b f y e k).length ≤ k := by
  have := List.length_filter_le (Pl b f y e) (List.range k)
  rw [List.length_range] at this
  exact this
theorem gs_lt {b : List UInt8} {f : List Nat} {y : Nat → BitVec 8} {e k q : Nat} (h : q ∈ gs b f y e k) : q < k := List.mem_range.1 (List.mem_filter.1 h).1
section
variable {b : List UInt8} {f : List Nat} (hn : b.length ≤ 255) (hf : ∀ q, q ∈ f → q < b.length)
include hn hf
/-- No solution of the locator's system: not so many wrong places. -/
theorem no_kernel {e : Nat} {z : Nat → BitVec 8} {i : Nat} (hi : i < e) (h1 : z i = 1#8) (hz : Solves (locM (twisted b f) f.length e) e z 0#8) : ∀ c, Near b f c → besides b c f ≠ e := fun c h q => by
  subst q
  have := round_kernel h hn hf z hz i hi
  rw [h1] at this
  exact absurd this (by decide)
theorem gs_wrong {c : List UInt8} (h : Near b f c) {e : Nat} (he : besides b c f = e) {y : Nat → BitVec 8} (hU : ∀ z, Solves (locM (twisted b f) f.length e) e z 1#8 → ∀ r, r < e → z r = y r) : gs b f y e b.length = wrong b c f := by
  subst he
  by_cases g : 0 < besides b c f
  · rw [← round_places hn y (fun r hr => hU _ (round_solves h hn hf) r hr)]
    unfold gs
    refine List.filter_congr (fun i _ => ?_)
    unfold Pl
    simp [g]
  · have w0 : (wrong b c f).length = 0 := by rw [wrong_length]; omega
    rw [List.eq_nil_of_length_eq_zero w0]
    unfold gs
    rw [List.filter_eq_nil_iff]
    intro i _
    unfold Pl
    simp [g]
/-- Another number of places: not so many wrong ones. -/
theorem no_places {e : Nat} {y : Nat → BitVec 8} (hU : ∀ z, Solves (locM (twisted b f) f.length e) e z 1#8 → ∀ r, r < e → z r = y r) (hl : (f ++ gs b f y e b.length).length ≠ f.length + e) : ∀ c, Near b f c → besides b c f ≠ e := fun c h q => by
  apply hl
  rw [gs_wrong hn hf h q hU, List.length_append, wrong_length, q]
/-- No code block there: not so many wrong places. -/
theorem no_mends (hd : f.Nodup) {e : Nat} {y : Nat → BitVec 8} (hU : ∀ z, Solves (locM (twisted b f) f.length e) e z 1#8 → ∀ r, r < e → z r = y r) {y' : Nat → BitVec 8}
    (hu : ∀ z, Solves (mendM b (f ++ gs b f y e b.length)) (f ++ gs b f y e b.length).length z 1#8 → ∀ r, r < (f ++ gs b f y e b.length).length → z r = y' r)
    (hc : ¬ Code (Gal.coefs (patch b (f ++ gs b f y e b.length) y' (f ++ gs b f y e b.length).length) b.length)) : ∀ c, Near b f c → besides b c f ≠ e := fun c h q => by
  rw [gs_wrong hn hf h q hU] at hu hc
  obtain ⟨s1, _, s3⟩ := round_mends h hn hf hd
  rw [s3 y' (fun i hi => (hu _ s1 i hi).symm)] at hc
  exact hc h.1
theorem no_mends' (hd : f.Nodup) {e : Nat} {y : Nat → BitVec 8} (hU : ∀ z, Solves (locM (twisted b f) f.length e) e z 1#8 → ∀ r, r < e → z r = y r) {z : Nat → BitVec 8} {i : Nat}
    (hi : i < (f ++ gs b f y e b.length).length) (h1 : z i = 1#8) (hz : Solves (mendM b (f ++ gs b f y e b.length)) (f ++ gs b f y e b.length).length z 0#8) : ∀ c, Near b f c → besides b c f ≠ e := fun c h q => by
  rw [gs_wrong hn hf h q hU] at hi hz
  obtain ⟨_, s2, _⟩ := round_mends h hn hf hd
  have := s2 z hz i hi
  rw [h1] at this
  exact absurd this (by decide)
end
/-- One round more. -/
theorem next_round {b : List UInt8} {f : List Nat} {e : Nat} (h : ∀ c, Near b f c → e ≤ besides b c f) (h' : ∀ c, Near b f c → besides b c f ≠ e) : ∀ c, Near b f c → e + 1 ≤ besides b c f := fun c hc => by
  have := h c hc
  have := h' c hc
  omega
/-- The rounds are over. -/
theorem no_more {b : List UInt8} {f : List Nat} {e : Nat} (h : ∀ c, Near b f c → e ≤ besides b c f) (he : ¬ f.length + 2 * e ≤ 8) : Dec b f [] 0 50 := .inr ⟨fun c hc => by
  have := h c hc
  have := hc.2.2
  omega, rfl, rfl, rfl⟩
/-- A code block is found. -/
theorem round_found {b : List UInt8} {f : List Nat} {e : Nat} {y y' : Nat → BitVec 8} (hl : (f ++ gs b f y e b.length).length = f.length + e) (he : f.length + 2 * e ≤ 8)
    (hc : Code (Gal.coefs (patch b (f ++ gs b f y e b.length) y' (f ++ gs b f y e b.length).length) b.length)) :
    Dec b f ((Gal.coefs (patch b (f ++ gs b f y e b.length) y' (f ++ gs b f y e b.length).length) b.length).take (b.length - 8)) ((dif b (Gal.coefs (patch b (f ++ gs b f y e b.length) y' (f ++ gs b f y e b.length).length) b.length)).length : Int) 0 := by
  rw [List.length_append] at hl
  exact .inl ⟨_, patch_near hc (by omega), rfl, rfl, rfl⟩
theorem take_str (l : List UInt8) (L : Nat) (h : l.length = L) : (⟨l.toArray⟩ : ByteArray).extract 0 (L - 8) = ⟨(l.take (L - 8)).toArray⟩ := by
  apply ByteArray.ext
  rw [ByteArray.data_extract]
  apply Array.toList_inj.1
  rw [Array.toList_extract]
  show List.extract l 0 (L - 8) = _
  rw [List.extract_eq_take_drop, List.drop_zero, Nat.sub_zero]
end Blk
end Go.Proofs.YtlpjhmafplljaaaGreatDoor
