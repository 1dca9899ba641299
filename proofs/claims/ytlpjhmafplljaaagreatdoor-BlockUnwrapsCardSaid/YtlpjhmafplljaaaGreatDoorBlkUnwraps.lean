/- BlockUnwraps: of all strings (of at most 1000 bytes), all depths and all lists of at most 60 errors, Unwrap of the interleaved string with these errors returns what the document says. No condition. -/
import Derived.Test.YtlpjhmafplljaaaGreatDoorBlkRUn
import Derived.Test.YtlpjhmafplljaaaGreatDoorBlkRWr
import Derived.Test.YtlpjhmafplljaaaGreatDoorPkF
import Derived.Test.YtlpjhmafplljaaaGreatDoorPkE
namespace Go.Proofs.YtlpjhmafplljaaaGreatDoor
open Go.ChangeShapes Go.WideShapes Go.ChangeAt Go.RowKit
set_option linter.unusedVariables false
set_option maxRecDepth 100000 in
theorem runwrap_bad (s : ByteArray) (z : Int) (hzw : (Lit.int .i64 z).wf = true) (a : Option Addr) (cap m n : Nat) (hn : s.size = n) (n2 : n ≤ 400000) (hb : ¬ (1 ≤ z ∧ z ≤ 4 ∧ 9 * z ≤ n ∧ (n : Int) ≤ 231 * z)) (w : World) :
    Calls Tryz.prog 17 #[.string s, .int .i64 z, .slice a m cap] w fun e w' => e = .returned (.tuple #[.string ⟨#[]⟩, .slice none 0 0, .int .i64 2]) ∧ w = w' := by
  by_cases g1 : z < 1
  · clear hb
    go_enter Tryz.func17, Tryz.ntmps17
    go_wp2_with fail
    go_ret3
    exact ⟨rfl, rfl⟩
  by_cases g2 : 4 < z
  · clear hb
    go_enter Tryz.func17, Tryz.ntmps17
    go_wp2_with fail
    go_ret3
    exact ⟨rfl, rfl⟩
  have m9 : IntKind.i64.wrap (9 * z) = 9 * z := by rw [IntKind.wrap_i64]; omega
  have m231 : IntKind.i64.wrap (231 * z) = 231 * z := by rw [IntKind.wrap_i64]; omega
  by_cases g3 : (n : Int) < 9 * z
  · clear hb m231
    go_enter Tryz.func17, Tryz.ntmps17
    go_wp2_with fail
    go_ret3
    exact ⟨rfl, rfl⟩
  · have g4 : 231 * z < (n : Int) := by omega
    clear hb
    go_enter Tryz.func17, Tryz.ntmps17
    go_wp2_with fail
    go_ret3
    exact ⟨rfl, rfl⟩
theorem rdp_unique {N z : Nat} {S : Nat → BitVec 8} {zs : List Int} {i : Nat} {o o' : List UInt8} {k x k' x' : Int} (D : RdP N z S zs i o k x) (D' : RdP N z S zs i o' k' x') : o = o' ∧ k = k' ∧ x = x' := by
  obtain ⟨f, hf, hm, d⟩ := D
  obtain ⟨g, hg, hm', d'⟩ := D'
  exact Blk.dec_unique d (Blk.dec_congr hg hf (fun p => by rw [hm p, hm' p]) d')
theorem dec_val2 (s : List UInt8) (f : List Nat) : ∃ o k x, Blk.Dec s f o k x := by
  by_cases h : ∃ c, Blk.Near s f c
  · obtain ⟨c, hc⟩ := h
    exact ⟨_, _, _, .inl ⟨c, hc, rfl, rfl, rfl⟩⟩
  · exact ⟨_, _, _, .inr ⟨fun c hc => h ⟨c, hc⟩, rfl, rfl, rfl⟩⟩
theorem rdp_val {n N z : Nat} (hN : N + 8 * z = n) {zs : List Int} (hz : Within zs n) (S : Nat → BitVec 8) {i : Nat} (hi : i < z) : ∃ o k x, RdP N z S zs i o k x := by
  obtain ⟨o, k, x, d⟩ := dec_val2 (Gal.coefs (prt N i z S) (Blk.parts N i z + 8)) (Blk.ers (prt N i z (fun j => decide ((j : Int) ∈ zs))) (Blk.parts N i z + 8))
  refine ⟨o, k, x, _, Blk.ers_nodup _ _, fun q => ?_, d⟩
  rw [Blk.mem_ers, il_mem]
  constructor
  · exact fun h => (pls_iff hN hi rfl hz (fun j _ => decide_eq_true_iff) h.1).1 h.2
  · exact fun h => ⟨pls_lt hN hi rfl hz h, (pls_iff hN hi rfl hz (fun j _ => decide_eq_true_iff) (pls_lt hN hi rfl hz h)).2 h⟩
theorem udt_same {o o' : Nat → List UInt8} {z : Nat} (h1 : 1 ≤ z) (h : ∀ i, i < z → o i = o' i) : Blk.udt o z z = Blk.udt o' z z := by
  funext p
  unfold Blk.udt
  have := Nat.mod_lt p (show 0 < z by omega)
  rw [if_pos this, if_pos this, h _ this]
theorem cnl_same {k k' x x' : Nat → Int} {z : Nat} (hk : ∀ i, i < z → k i = k' i) (hx : ∀ i, i < z → x i = x' i) : cnl k x z = cnl k' x' z := by
  unfold cnl
  refine List.map_congr_left (fun i hi => ?_)
  have h := List.mem_range.1 hi
  unfold Blk.cnts
  rw [hk i h, hx i h]
theorem intz_ints {w : World} {b m : Nat} {k x : Nat → Int} (h : Intz w b m (Blk.cnts k x m)) : Ints w (some ⟨b, 0, none⟩) (cnl k x m) :=
  .inr ⟨b, 0, rfl, h.1, fun j hj => by
    rw [cnl_len] at hj
    rw [Nat.zero_add, (h.2 j hj).1]
    unfold cnl
    rw [List.getD_eq_getElem?_getD, List.getElem?_map, List.getElem?_range hj]
    rfl⟩
namespace blockUnwraps
/-- Whatever both return. -/
def Both (s : ByteArray) (z : Int) (a : Option Addr) (cap m : Nat) (w0 : World) : Prop :=
  ∃ (d : ByteArray) (e : Int) (cs : List Int) (k : Nat), cs.length = k ∧ k ≤ 4 ∧
    (∀ w, Below w0.heap.size w0 w → Calls Tryz.prog 16 #[.string s, .int .i64 z, .slice a m cap] w fun en w' => ∃ a1 c1, en = .returned (.tuple #[.string d, .slice a1 k c1, .int .i64 e]) ∧ Ints w' a1 cs ∧ Below w.heap.size w w') ∧
    (∀ w, Below w0.heap.size w0 w → Calls Tryz.prog 17 #[.string s, .int .i64 z, .slice a m cap] w fun en w' => ∃ a1 c1, en = .returned (.tuple #[.string d, .slice a1 k c1, .int .i64 e]) ∧ Ints w' a1 cs ∧ Below w.heap.size w w')
theorem both (s : ByteArray) (z : Int) (hzw : (Lit.int .i64 z).wf = true) (a : Option Addr) (cap m n : Nat) (zs : List Int) (hn : s.size = n) (n2 : n ≤ 2000) (hm : zs.length = m) (m2 : m ≤ 60) (hz : Within zs n) (w0 : World) (R0 : Ints w0 a zs) : Both s z a cap m w0 := by
  by_cases g : 1 ≤ z ∧ z ≤ 4 ∧ 9 * z ≤ n ∧ (n : Int) ≤ 231 * z
  · obtain ⟨g1, g2, g3, g4⟩ := g
    obtain ⟨y, rfl⟩ : ∃ y : Nat, z = (y : Int) := ⟨z.toNat, by omega⟩
    obtain ⟨N, hN⟩ : ∃ N, N + 8 * y = n := ⟨n - 8 * y, by omega⟩
    have ex : ∀ i, ∃ r : List UInt8 × Int × Int, i < y → RdP N y (Gal.co s.data.toList) zs i r.1 r.2.1 r.2.2 := fun i => by
      by_cases h : i < y
      · obtain ⟨o, k, x, d⟩ := rdp_val hN hz (Gal.co s.data.toList) h
        exact ⟨(o, k, x), fun _ => d⟩
      · exact ⟨([], 0, 0), fun q => absurd q h⟩
    obtain ⟨r, hr⟩ := Classical.axiomOfChoice ex
    obtain ⟨t, ht⟩ : ∃ t : Bool, t = true ↔ ∃ i, i < y ∧ (r i).2.2 ≠ 0 := by
      by_cases q : ∃ i, i < y ∧ (r i).2.2 ≠ 0
      · exact ⟨true, ⟨fun _ => q, fun _ => rfl⟩⟩
      · exact ⟨false, ⟨fun h => (by cases h), fun h => absurd h q⟩⟩
    refine ⟨bif t then ⟨#[]⟩ else ⟨(Gal.coefs (Blk.udt (fun i => (r i).1) y y) N).toArray⟩, bif t then 50 else 0, cnl (fun i => (r i).2.1) (fun i => (r i).2.2) y, y, cnl_len _ _ _, by omega, fun w hb => ?_, fun w hb => ?_⟩
    · refine (unwrap_any s a cap m n y N zs hn (by omega) (by omega) hN (by omega) (by omega) hm (by omega) hz w (R0.below hb)).mono fun e w' h => ?_
      obtain ⟨er, o, k, x, cc, t', her, hU, hT, rfl, hI, _, hB⟩ := h
      have e1 : ∀ i, i < y → o i = (r i).1 ∧ k i = (r i).2.1 ∧ x i = (r i).2.2 := fun i hi => both_parts hN hz her hi (hU i hi) (hr i hi)
      have e2 : t' = t := by
        rw [Bool.eq_iff_iff, hT, ht]
        exact ⟨fun ⟨i, hi, q⟩ => ⟨i, hi, by rw [← (e1 i hi).2.2]; exact q⟩, fun ⟨i, hi, q⟩ => ⟨i, hi, by rw [(e1 i hi).2.2]; exact q⟩⟩
      subst e2
      refine ⟨some ⟨cc, 0, none⟩, y, ?_, ?_, hB⟩
      · rw [udt_same (by omega) (fun i hi => (e1 i hi).1)]
      · rw [← cnl_same (fun i hi => (e1 i hi).2.1) (fun i hi => (e1 i hi).2.2)]
        exact intz_ints hI
    · refine (runwrap_any s a cap m n y N zs hn (by omega) (by omega) hN (by omega) (by omega) hm (by omega) hz w (R0.below hb)).mono fun e w' h => ?_
      obtain ⟨o, k, x, a1, c1, t', hU, hT, rfl, hI, hB⟩ := h
      have e1 : ∀ i, i < y → o i = (r i).1 ∧ k i = (r i).2.1 ∧ x i = (r i).2.2 := fun i hi => rdp_unique (hU i hi) (hr i hi)
      have e2 : t' = t := by
        rw [Bool.eq_iff_iff, hT, ht]
        exact ⟨fun ⟨i, hi, q⟩ => ⟨i, hi, by rw [← (e1 i hi).2.2]; exact q⟩, fun ⟨i, hi, q⟩ => ⟨i, hi, by rw [(e1 i hi).2.2]; exact q⟩⟩
      subst e2
      refine ⟨a1, c1, ?_, ?_, hB⟩
      · rw [udt_same (by omega) (fun i hi => (e1 i hi).1)]
      · rw [← cnl_same (fun i hi => (e1 i hi).2.1) (fun i hi => (e1 i hi).2.2)]
        exact hI
  · refine ⟨⟨#[]⟩, 2, [], 0, rfl, by omega, fun w hb => (unwrap_bad s z a cap m n zs hn (by omega) (fun q => g ⟨q.1, q.2.1, q.2.2.1, q.2.2.2.1⟩) hm (by omega) w (R0.below hb)).mono fun e w' h => ?_, fun w hb => (runwrap_bad s z hzw a cap m n hn (by omega) g w).mono fun e w' h => ?_⟩
    · obtain ⟨rfl, rfl⟩ := h
      exact ⟨none, 0, rfl, .inl rfl, Below.refl _ _⟩
    · obtain ⟨rfl, rfl⟩ := h
      exact ⟨none, 0, rfl, .inl rfl, Below.refl _ _⟩
set_option maxRecDepth 100000 in
set_option maxHeartbeats 2000000 in
theorem walk (a : ByteArray) (ha : a.size ≤ maxLen) (z : Int) (hz : (Lit.int .i64 z).wf = true) (A : Option Addr) (cap m : Nat) (hm : m ≤ maxLen) (At : Nat → Int) (Ch : Nat → BitVec 8) (Er : Nat → Bool) (hA : ∀ j, j < m → (Lit.int .i64 (At j)).wf = true) (w : World) (R : Errs w A m At Ch Er) :
    Calls Tryz.prog 5 #[.string a, .int .i64 z, .slice A m cap] w fun e w' => e = .returned (.bool true) ∧ Below w.heap.size w w' := by
  have AW := Lib.hid (fun w => bawake_any w)
  have SI := Lib.hid (fun a1 a2 c1 c2 zs n hn hl w R1 R2 => sameInts_any a1 a2 c1 c2 zs n hn hl w R1 R2)
  unfold maxLen at ha hm
  obtain ⟨n, hn⟩ : ∃ n, a.size = n := ⟨_, rfl⟩
  rw [hn] at ha
  have sn := hn
  by_cases h1 : 1000 < n
  · clear R hA
    go_enter Tryz.func5, Tryz.ntmps5
    go_wp2_with fail
    (with_reducible refine (AW.out _).mono ?_)
    rintro e w1 ⟨rfl, h1⟩
    have B1 := Lib.hid h1
    clear h1
    go_wp2_with fail
    go_ret
    exact ⟨rfl, B1.out⟩
  by_cases h2 : 60 < m
  · have h1' : decide ((1000 : Int) < (n : Int)) = false := by simp; omega
    clear R hA
    go_enter Tryz.func5, Tryz.ntmps5
    go_wp2_with fail
    (with_reducible refine (AW.out _).mono ?_)
    rintro e w1 ⟨rfl, h1⟩
    have B1 := Lib.hid h1
    clear h1
    go_wp2_with fail
    go_ret
    exact ⟨rfl, B1.out⟩
  have SP := Lib.hid (fun (s : ByteArray) L hs L1 L2 w R => spoil_any s L m hs L1 L2 A cap (by omega) At Ch Er hA w R)
  have BO := Lib.hid (fun s L ca k zs aa hs hL hk hk2 hw w R => both s z hz aa ca k L zs hs hL hk hk2 hw w R)
  have HR := Lib.hid R
  clear hA R
  by_cases g : 1 ≤ z ∧ z ≤ 4 ∧ z ≤ a.size ∧ (a.size : Int) ≤ 223 * z
  · obtain ⟨y, rfl⟩ : ∃ y : Nat, z = (y : Int) := ⟨z.toNat, by omega⟩
    have WR := Lib.hid (fun w => rwrap_any a n y hn (by omega) (by omega) (by omega) (by omega) w)
    have xs : (⟨(Blk.wrap a.data.toList y).toArray⟩ : ByteArray).size = n + 8 * y := by rw [sz, Blk.wrap_length, ls, hn]
    obtain ⟨L, hL⟩ : ∃ L, n + 8 * y = L := ⟨_, rfl⟩
    rw [hL] at xs
    have L1 : 1 ≤ L := by omega
    have L2 : L ≤ 2000 := by omega
    obtain ⟨ws, hws⟩ : ∃ s : ByteArray, (⟨(Blk.wrap a.data.toList y).toArray⟩ : ByteArray) = s := ⟨_, rfl⟩
    rw [hws] at WR xs
    have WX := Lib.hid xs
    have we := empty_no (s := ws) (by omega)
    clear g hn hL hws
    go_enter Tryz.func5, Tryz.ntmps5
    go_wp2_with fail
    (with_reducible refine (WR.out _).mono ?_)
    rintro e w1 ⟨rfl, hB⟩
    have B1 := Lib.hid hB
    clear hB WR
    go_wp2_with fail
    (with_reducible refine (SP.out ws L WX.out L1 L2 _ (HR.out.below B1.out)).mono ?_)
    rintro e w2 ⟨s, zs, az, cz, rfl, hs, hzl, hzw, hiz, k2⟩
    obtain ⟨q, hq⟩ : ∃ q, zs.length = q := ⟨_, rfl⟩
    have q2 : q ≤ 60 := by omega
    have B2 := Lib.hid (bt B1.out k2)
    obtain ⟨d, ee, cs, k, hcs, hk4, hP, hQ⟩ := BO.out s L cz q zs az hs L2 hq q2 hzw w2 hiz
    rw [hq]
    have HP := Lib.hid (hP w2 (Below.refl _ _))
    have HQ := Lib.hid hQ
    have HCS := Lib.hid hcs
    have ds := beq_same d
    have es : ((ee : Int) == ee) = true := by simp
    clear hs hzl hzw hiz k2 hq hP hQ hcs SP BO HR WX we
    go_wp2_with fail
    (with_reducible refine HP.out.mono ?_)
    rintro e w3 ⟨a1, c1, rfl, hI1, h3⟩
    have C3 := Lib.hid h3
    have I1 := Lib.hid hI1
    clear h3 hI1 HP
    go_wp2_with fail
    (with_reducible refine (HQ.out _ C3.out).mono ?_)
    rintro e w4 ⟨a2, c2, rfl, hI2, h4⟩
    have SS := Lib.hid (SI.out a1 a2 c1 c2 cs k HCS.out (by omega) w4 (I1.out.below h4) hI2)
    have B4 := Lib.hid (B2.out.trans ((bt C3.out h4).mono B2.out.size))
    clear h4 hI2 HQ I1 SI
    go_wp2_with fail
    (with_reducible refine SS.out.mono ?_)
    rintro e w5 ⟨rfl, h5⟩
    have B5 := Lib.hid (bt B4.out h5)
    clear h5 SS
    go_wp2_with fail
    (with_reducible refine (AW.out _).mono ?_)
    rintro e w6 ⟨rfl, h6⟩
    have B6 := Lib.hid (bt B5.out h6)
    clear h6
    go_wp2_with fail
    go_ret
    exact ⟨rfl, B6.out⟩
  · have WB := Lib.hid (fun w => rwrap_bad a z hz (by omega) g w)
    by_cases n0 : n = 0
    · have ae := is_empty (hn.trans n0)
      subst ae
      clear g SP BO HR hn sn
      go_enter Tryz.func5, Tryz.ntmps5
      go_wp2_with fail
      (with_reducible refine (WB.out _).mono ?_)
      rintro e w1 ⟨rfl, rfl⟩
      go_wp2_with fail
      (with_reducible refine (AW.out _).mono ?_)
      rintro e w5 ⟨rfl, h⟩
      have C5 := Lib.hid h
      clear h
      go_wp2_with fail
      go_ret
      exact ⟨rfl, C5.out⟩
    · have L1 : 1 ≤ n := by omega
      have L2 : n ≤ 2000 := by omega
      obtain ⟨L, hL⟩ : ∃ L, n = L := ⟨_, rfl⟩
      subst hL
      have WX := Lib.hid hn
      have we := empty_no (s := a) (by omega)
      have B1 := Lib.hid (Below.refl w.heap.size w)
      clear g hn
      go_enter Tryz.func5, Tryz.ntmps5
      go_wp2_with fail
      (with_reducible refine (WB.out _).mono ?_)
      rintro e w1 ⟨rfl, rfl⟩
      clear WB
      go_wp2_with fail
      (with_reducible refine (SP.out a n WX.out L1 L2 _ (HR.out.below B1.out)).mono ?_)
      rintro e w2 ⟨s, zs, az, cz, rfl, hs, hzl, hzw, hiz, k2⟩
      obtain ⟨q, hq⟩ : ∃ q, zs.length = q := ⟨_, rfl⟩
      have q2 : q ≤ 60 := by omega
      have B2 := Lib.hid (bt B1.out k2)
      obtain ⟨d, ee, cs, k, hcs, hk4, hP, hQ⟩ := BO.out s n cz q zs az hs L2 hq q2 hzw w2 hiz
      rw [hq]
      have HP := Lib.hid (hP w2 (Below.refl _ _))
      have HQ := Lib.hid hQ
      have HCS := Lib.hid hcs
      have ds := beq_same d
      have es : ((ee : Int) == ee) = true := by simp
      clear hs hzl hzw hiz k2 hq hP hQ hcs SP BO HR WX we
      go_wp2_with fail
      (with_reducible refine HP.out.mono ?_)
      rintro e w3 ⟨a1, c1, rfl, hI1, h3⟩
      have C3 := Lib.hid h3
      have I1 := Lib.hid hI1
      clear h3 hI1 HP
      go_wp2_with fail
      (with_reducible refine (HQ.out _ C3.out).mono ?_)
      rintro e w4 ⟨a2, c2, rfl, hI2, h4⟩
      have SS := Lib.hid (SI.out a1 a2 c1 c2 cs k HCS.out (by omega) w4 (I1.out.below h4) hI2)
      have B4 := Lib.hid (B2.out.trans ((bt C3.out h4).mono B2.out.size))
      clear h4 hI2 HQ I1 SI
      go_wp2_with fail
      (with_reducible refine SS.out.mono ?_)
      rintro e w5 ⟨rfl, h5⟩
      have B5 := Lib.hid (bt B4.out h5)
      clear h5 SS
      go_wp2_with fail
      (with_reducible refine (AW.out _).mono ?_)
      rintro e w6 ⟨rfl, h6⟩
      have B6 := Lib.hid (bt B5.out h6)
      clear h6
      go_wp2_with fail
      go_ret
      exact ⟨rfl, B6.out⟩

set_option maxRecDepth 100000 in
theorem lifted (os : Os) (started : os.Started) (H : Type) (enc : TypeId × Value → H) :
    ReturnsInHanded {} Tryz.checked os 5 .any (fun w args => (Rows.blockUnwrapsSpec.pre enc Tryz.prog Tryz.f5 [] false w args ∧ laidMetH Tryz.prog laidL w) ∧ sizedMet enc Tryz.prog Tryz.f5 (OpenSpec.ofChange Rows.blockUnwrapsSpec) false w args)
      (Rows.blockUnwrapsSpec.post enc Tryz.prog Tryz.f5 false true false false) := by
  refine returnsInHanded_of_change_and (C := Tryz.checked) (X := fun w _ => laidMetH Tryz.prog laidL w) (fun _ _ _ hh h => h.of_heap hh) own started (by kernel_rfl) Tryz.func5
    (ChangeSpec.witness_shaped (enc := enc) (C := Tryz.checked) (os := os) (X := fun w _ => laidMetH Tryz.prog laidL w) false (World.laidAll Tryz.prog os laidL) #[.string { data := #[] }, .int .i64 0, .slice none 0 0] 8 (World.laidAll_os _ _ _)
      (World.shaped_of_ZipB (by kernel_rfl) (by kernel_rfl)) (by kernel_rfl) (by kernel_rfl) (by kernel_rfl) (laid_met os _)) ?_
  intro W base args ds gs before hval0 hW _ _ _ _
  have hval : ∀ (j : Nat) t v, Tryz.f5.params[j]? = some t → args[j]? = some v → Value.okWide Tryz.prog W .any base t v := hval0
  have hW' := hW
  obtain ⟨p, q, hA0, hV, rfl, hfz, hnd⟩ := hW
  have hA : DataW.TrodAll enc Tryz.prog W 0 (fun _ => true) true Tryz.f5.params.toList args.toList ds p := hA0
  rw [Tryz.params5] at hA hval
  obtain ⟨v0, vs0, d0, ds0, p0, q0, hargs, rfl, rfl, h0, r0⟩ := trodAll_cons hA
  obtain ⟨v1, vs1, d1, ds1, p1, q1, rfl, rfl, rfl, h1, r1⟩ := trodAll_cons r0
  obtain ⟨v2, vs2, d2, ds2, p2, q2, rfl, rfl, rfl, h2, r2⟩ := trodAll_cons r1
  obtain ⟨rfl, rfl, rfl⟩ := trodAll_nil r2
  obtain rfl : args = #[v0, v1, v2] := by cases args; simp_all
  obtain ⟨rfl, rfl⟩ := trodVars_none hV
  obtain ⟨a0, rfl, rfl, rfl, w0⟩ := ChangeMaps.open_string Tryz.underlying9 (hval 0 9 v0 rfl rfl) h0
  obtain ⟨a1, rfl, rfl, rfl, w1⟩ := open_int Tryz.underlying3 (hval 1 3 v1 rfl rfl) h1
  obtain ⟨x2, y2, z2, e2⟩ := okWide_slice Tryz.underlying34 (hval 2 34 v2 rfl rfl)
  obtain ⟨m2, A2, cap2, At2, Ch2, Er2, rfl, l2, R2, k2, shut2⟩ := err_arg (by rw [e2]; rfl) h2
  clear e2
  clear hA0 hval0
  simp only [List.append_nil] at hW'
  refine (walk a0 w0 a1 w1 A2 cap2 m2 l2 At2 Ch2 Er2 k2 W R2).mono fun e W' ⟨he, hg⟩ => ?_
  subst he
  exact ⟨_, rfl, post_of_below (pa := [] ++ ([] ++ (p2 ++ ([])))) (pv := []) hW' (fun _ _ _ => trodAll_cons_mk (shut_bool Tryz.underlying4 _) trodAll_mk0) (fun sp hsp => (trodAll_cons_mk (ChangeMaps.shut_string Tryz.underlying9 w0) (trodAll_cons_mk (shut_int Tryz.underlying3 w1) (trodAll_cons_mk (shut2 W' hg sp (fun q hq => hsp q (by simp [hq]))) trodAll_mk0)))) (fun _ _ => rfl) (by simp)
    hg (ok_one (by kernel_rfl) rfl (okWide_bool_mk Tryz.underlying4 _))⟩

theorem over : Rows.BlockUnwrapsSaid :=
  OpenClaim.holds_of_wide 5 Tryz.f5 rfl rfl rfl rfl rfl rfl rfl ⟨rfl, rfl, rfl, rfl, rfl⟩ rfl rfl rfl rfl rfl (by kernel_rfl) Tryz.func5 (by kernel_rfl)
    (of_decide_eq_true (by kernel_rfl)) (by unfold Func.isWrapper; first | (rw [if_pos (by decide +kernel)]; kernel_rfl) | (rw [if_neg (by decide +kernel)]; exact ⟨rfl, rfl⟩))
    (fun os started H enc _ => lifted os started H enc)

theorem proved : Rows.BlockUnwrapsCardSaid :=
  Claim7.holds_tied_plain_at .later [] [.data, .pinned] true Rows.blockUnwrapsCard.stood.harness false
    over (fun _ h => by cases h) (by kernel_rfl) (fun _ h => by cases h) blockUnwraps_row_tie rfl ⟨rfl, rfl⟩ (by kernel_rfl) rfl
    (fun f fn hf hfn => by
      obtain rfl : f = 5 := Option.some.inj ((show Tryz.prog.funcNamed "perigee/perigeelaw05.BlockUnwraps" = some 5 by kernel_rfl).symm.trans hf) |>.symm
      obtain rfl : fn = Tryz.f5 := (Option.some.inj (Tryz.func5.symm.trans hfn)).symm
      exact ⟨by kernel_rfl, fun j t ht => by
        have hall : (Tryz.f5.params.toList.all fun u => !Tryz.prog.wantsStandIn u) = true := by kernel_rfl
        have hm : t ∈ Tryz.f5.params.toList := by simpa using Array.mem_of_getElem? ht
        exact (show Tryz.prog.wantsStandIn t = false by simpa using List.all_eq_true.1 hall t hm)⟩)
    (by kernel_rfl)
#print axioms proved
end blockUnwraps
