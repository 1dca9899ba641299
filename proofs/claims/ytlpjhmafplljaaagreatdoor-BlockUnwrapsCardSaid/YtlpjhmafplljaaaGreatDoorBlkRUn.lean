/- The contracts of perigeeref05's Unwrap over this program. -/
import Derived.Test.YtlpjhmafplljaaaGreatDoorPkQ
import Derived.Test.YtlpjhmafplljaaaGreatDoorPkF
namespace Go.Proofs.YtlpjhmafplljaaaGreatDoor
open Go.RowKit
set_option linter.unusedVariables false

/-- What the reference's Unwrap does with places that are places. -/
def RUnP (S : Nat → BitVec 8) (zs : List Int) (N z : Nat) (w : World) (e : Ending) (w' : World) : Prop :=
  ∃ o k x a c t, (∀ i, i < z → RdP N z S zs i (o i) (k i) (x i)) ∧ (t = true ↔ ∃ i, i < z ∧ x i ≠ 0) ∧
    e = .returned (.tuple #[.string (bif t then ⟨#[]⟩ else ⟨(Gal.coefs (Blk.udt o z z) N).toArray⟩), .slice a z c, .int .i64 (bif t then 50 else 0)]) ∧ Ints w' a (cnl k x z) ∧ Below w.heap.size w w'
theorem ivl_one (zs : List Int) (v : Int) : ivl (zs ++ [v]) = ivl zs ++ [.int .i64 v] := by simp [ivl]
theorem ivl_plv (f : List Nat) : ivl (il f) = plv f := by unfold ivl il plv; rw [List.map_map]; rfl
set_option maxRecDepth 100000 in
set_option maxHeartbeats 4000000 in
theorem runwrap_any (s : ByteArray) (a : Option Addr) (cap m n z N : Nat) (zs : List Int) (hn : s.size = n) (h1 : 1 ≤ z) (h4 : z ≤ 4) (hN : N + 8 * z = n) (g1 : 9 * z ≤ n) (g2 : n ≤ 231 * z) (hm : zs.length = m) (m2 : m ≤ 1000) (hz : Within zs n) (w : World) (R : Ints w a zs) :
    Calls Tryz.prog 17 #[.string s, .int .i64 (z : Nat), .slice a m cap] w (RUnP (Gal.co s.data.toList) zs N z w) := by
  have n4 : n ≤ 924 := by omega
  have HM := Lib.hid hm
  have HZ := Lib.hid hz
  have HR := Lib.hid R
  have HN := Lib.hid hn
  have HNN := Lib.hid hN
  have sn := hn
  have m9 : IntKind.i64.wrap (9 * (z : Int)) = 9 * (z : Int) := by rw [IntKind.wrap_i64]; omega
  have m231 : IntKind.i64.wrap (231 * (z : Int)) = 231 * (z : Int) := by rw [IntKind.wrap_i64]; omega
  have q1 : ¬ (z : Int) < 1 := by omega
  have q4 : ¬ (4 : Int) < (z : Int) := by omega
  have q9 : ¬ (n : Int) < 9 * (z : Int) := by omega
  have q231 : ¬ 231 * (z : Int) < (n : Int) := by omega
  have CP := Lib.hid (fun j (hj : j < z) => cat_parts s n N z j hn hN hj)
  have PS := Lib.hid (fun j (hj : j < z) => part_size s n N z j hn (by omega) hj)
  have P1 := Lib.hid (fun j (hj : j < z) w => part_any (s.extract 0 N) j z hj (by omega) (by rw [ByteArray.size_extract]; omega) w)
  have P2 := Lib.hid (fun j (hj : j < z) w => part_any (s.extract N n) j z hj (by omega) (by rw [ByteArray.size_extract]; omega) w)
  obtain ⟨S, hS⟩ : ∃ f, Gal.co s.data.toList = f := ⟨_, rfl⟩
  rw [hS] at CP ⊢
  have ZN := Lib.hid (show z ≤ N by omega)
  have N223 := Lib.hid (show N ≤ 223 * z by omega)
  clear hm hz R hn hS
  go_enter Tryz.func17, Tryz.ntmps17
  go_wp2_with fail
  go_loopw [9] (fun u wr => ∃ k : Nat, k ≤ m ∧ u = .int .i64 (k : Nat) ∧ wr = w) (fun u _ => m - (intOf u).toNat)
  case atStart => exact ⟨0, Nat.zero_le _, rfl, by first | rfl | trivial⟩
  case round =>
    obtain ⟨k, hk, rfl, rfl⟩ := hrel
    by_cases hlt : k < m
    · obtain ⟨zb, zo, rfl, zl, zc⟩ := HR.out.cell (by rw [HM.out]; omega)
      have ck := zc k (by rw [HM.out]; exact hlt)
      obtain ⟨p, hp, hpL⟩ : ∃ p : Nat, zs.getD k 0 = (p : Int) ∧ p < n := by
        have hk' : k < zs.length := by rw [HM.out]; exact hlt
        have := HZ.out (zs.getD k 0) (by rw [getD_at zs hk']; exact List.getElem_mem _)
        exact ⟨(zs.getD k 0).toNat, by omega, by omega⟩
      rw [hp] at ck
      have p0 : decide ((p : Int) < 0) = false := by simp
      have p1 : ¬ (n : Int) ≤ (p : Int) := by omega
      clear zc zl hp
      go_wp2_with fail
      go_roundw
      case rel => exact ⟨k + 1, by omega, by go_num, by first | rfl | trivial⟩
      case measure => simp [intOf]; omega
    · obtain rfl : k = m := by omega
      have e2 : (8 : Int) * (z : Int) = ((8 * z : Nat) : Int) := by omega
      have e3 : (n : Int) - ((8 * z : Nat) : Int) = (N : Int) := by omega
      have z8 : 8 * z ≤ 32 := by omega
      have N8 : N ≤ 892 := by omega
      obtain ⟨t8, ht⟩ : ∃ t, 8 * z = t := ⟨_, rfl⟩
      rw [ht] at e2 e3 z8
      obtain ⟨i0, hi0, hz0, hz1, hz2⟩ := info_parts info_u8
      clear ht
      rename World => w0
      go_wp2_with (at_make; refine wpList_make_full _ rfl _ _ 41 rfl w0.heap.size 5 i0 (.int .u8 0) 1 Tryz.underlying41 hi0 hz0 hz1 .i64 .i64 _ _ N rfl rfl rfl rfl (by rw [hz2]; omega) (by unfold maxLen; omega) (Nat.le_refl _) ?_; intro w4 hown hgrow; have B4 := Lib.hid ((Below.refl w0.heap.size w0).grown hgrow (Nat.le_refl _) (fun k e => by cases e)); have N4 := Lib.hid (madeNums hown); clear hown hgrow)
      obtain ⟨db, hdb⟩ : ∃ d, w0.heap.size = d := ⟨_, rfl⟩
      have LZ := Lib.hid (show db + 1 ≤ w4.heap.size by have := N4.out.1; omega)
      rw [hdb] at N4
      have HDB := Lib.hid hdb
      have N0 := Lib.hid (show NumsK .u8 w4 db N (fun p => (Blk.udt (fun _ => []) z 0 p).toNat) from N4.out.congr (fun p _ => by rw [Blk.udt_zero]; rfl))
      rw [hdb]
      clear hi0 hz0 hz1 hz2 N4 hdb
      go_wp2_with fail
      go_loopw [12, 13, 14] (fun l tt u wr => ∃ (j : Nat) (t : Bool) (o : Nat → List UInt8) (k x : Nat → Int), j ≤ z ∧ wr.ownsRow (db + 1) 3 1 l j (ivl (cnl k x j)) ∧ tt = .bool t ∧ u = .int .i64 (j : Nat) ∧ (∀ i, i < j → RdP N z S zs i (o i) (k i) (x i)) ∧ (t = true ↔ ∃ i, i < j ∧ x i ≠ 0) ∧ NumsK .u8 wr db N (fun p => (Blk.udt o z j p).toNat) ∧ Below w0.heap.size w0 wr ∧ db + 1 ≤ wr.heap.size) (fun _ _ u _ => z - (intOf u).toNat)
      case atStart => exact ⟨0, false, _, fun _ => 0, fun _ => 0, Nat.zero_le _, World.ownsRow_nil _ _ _ _, rfl, rfl, fun i hi => absurd hi (Nat.not_lt_zero _), ⟨fun h => by simp at h, fun ⟨i, hi, _⟩ => absurd hi (Nat.not_lt_zero _)⟩, N0.out, B4.out, LZ.out⟩
      case round =>
        obtain ⟨j, t, o, kf, x, hj, hown, rfl, rfl, hU, hT, hE, hB, hsz⟩ := hrel
        have HO := Lib.hid hown
        have HU := Lib.hid hU
        have HT := Lib.hid hT
        have HE := Lib.hid hE
        have HB := Lib.hid hB
        have HS := Lib.hid hsz
        clear hown hU hT hE hB hsz
        rename World => w1
        by_cases jz : j < z
        · have PA := Lib.hid (P1.out j jz)
          have PB := Lib.hid (P2.out j jz)
          have cp := CP.out j jz
          have ps := PS.out j jz
          have PLT := Lib.hid (fun q hq => pls_lt (M := Blk.parts N j z) HNN.out jz rfl HZ.out (q := q) hq)
          have PT := Lib.hid (fun (k p : Nat) (hk : k < zs.length) (hp : zs.getD k 0 = (p : Int)) => pls_take N (Blk.parts N j z) z j zs hk hp)
          have PLE := Lib.hid (fun l => pls_len N (Blk.parts N j z) z j l)
          have PP := Lib.hid (parts_pos jz ZN.out)
          have PL := Lib.hid (show Blk.parts N j z ≤ 223 by
            apply Nat.le_of_not_lt
            intro h
            have := (Blk.parts_iff N j z 223 jz).2 h
            have := N223.out
            omega)
          have PI := Lib.hid (fun i => Blk.parts_iff N j z i jz)
          have KU := Lib.hid (show ∀ f o' k' x', f.Nodup → (∀ q : Nat, q ∈ f ↔ (q : Int) ∈ il (pls N (Blk.parts N j z) z j zs)) → Blk.Dec (Gal.coefs (prt N j z S) (Blk.parts N j z + 8)) f o' k' x' → RdP N z S zs j o' k' x' from fun f _ _ _ h1 h2 h3 => ⟨f, h1, h2, h3⟩)
          have LN := Lib.hid (Gal.coefs_length (prt N j z S) (Blk.parts N j z + 8))
          obtain ⟨M, hM⟩ : ∃ M, Blk.parts N j z = M := ⟨_, rfl⟩
          rw [hM] at cp ps PLT PT PLE PP PL PI KU LN
          obtain ⟨U, hU⟩ : ∃ U, Gal.coefs (prt N j z S) (M + 8) = U := ⟨_, rfl⟩
          rw [hU] at cp KU LN
          obtain ⟨ow, how⟩ : ∃ t : ByteArray, (⟨(Blk.part (s.extract 0 N).data.toList j z).toArray⟩ : ByteArray) = t := ⟨_, rfl⟩
          obtain ⟨ob, hob⟩ : ∃ t : ByteArray, (⟨(Blk.part (s.extract N n).data.toList j z).toArray⟩ : ByteArray) = t := ⟨_, rfl⟩
          rw [how] at cp ps PA
          rw [hob] at cp PB
          have os : ow.size + ob.size = M + 8 := by
            have h := congrArg ByteArray.size cp
            have h2 := sz U
            rw [LN.out] at h2
            rw [ByteArray.size_append, h2] at h
            exact h
          have obs : ob.size = 8 := by omega
          have CC := Lib.hid cp
          have M223 := PL.out
          clear hM hU how hob cp os
          go_wp2_with fail
          (with_reducible refine (PA.out _).mono ?_)
          rintro e w2 ⟨rfl, h2⟩
          have B2 := Lib.hid h2
          have G2 := Lib.hid (HR.out.below (bt HB.out h2))
          clear h2 PA
          go_wp2_with fail
          go_loopw [16, 17] (fun o u wr => ∃ i : Nat, i ≤ k ∧ u = .int .i64 (i : Nat) ∧ wr.ownsRow w2.heap.size 3 1 o (pls N M z j (zs.take i)).length (plv (pls N M z j (zs.take i))) ∧ Below w2.heap.size w2 wr) (fun _ u _ => k - (intOf u).toNat)
          case atStart => exact ⟨0, Nat.zero_le _, rfl, World.ownsRow_nil _ _ _ _, Below.refl _ _⟩
          case round =>
            obtain ⟨i, hi, rfl, hown, hB⟩ := hrel
            have ple := PLE.out (zs.take i)
            rw [List.length_take] at ple
            obtain ⟨f, hf⟩ : ∃ f, pls N M z j (zs.take i) = f := ⟨_, rfl⟩
            rw [hf] at hown ple
            obtain ⟨nf, hnf⟩ : ∃ n, f.length = n := ⟨_, rfl⟩
            rw [hnf] at hown ple
            obtain ⟨af, cf, rfl, hG⟩ := own_got hnf hown
            have HO3 := Lib.hid hown
            have HB3 := Lib.hid hB
            have HG3 := Lib.hid hG
            have HF := Lib.hid hf
            have HNF := Lib.hid hnf
            clear hown hB hG hf hnf
            rename World => w3
            by_cases hlt2 : i < k
            · obtain ⟨zb, zo, rfl, zl, zc⟩ := G2.out.cell (by rw [HM.out]; omega)
              have ck := (HB3.out.cell (p := ⟨zb, zo + i, none⟩) zl).trans (zc i (by rw [HM.out]; exact hlt2))
              obtain ⟨p, hp, hpL⟩ : ∃ p : Nat, zs.getD i 0 = (p : Int) ∧ p < n := by
                have hk' : i < zs.length := by rw [HM.out]; exact hlt2
                have := HZ.out (zs.getD i 0) (by rw [getD_at zs hk']; exact List.getElem_mem _)
                exact ⟨(zs.getD i 0).toNat, by omega, by omega⟩
              have pt := PT.out i p (by rw [HM.out]; exact hlt2) hp
              rw [HF.out] at pt
              have TK := Lib.hid pt
              rw [hp] at ck
              have m0 : (z : Int) ≠ 0 := by omega
              have nf9 : nf ≤ 1000 := by omega
              have zi : z ≠ 0 := by omega
              clear zc zl hp ple pt
              by_cases gp : p < N
              · have gpi : decide ((p : Int) < (N : Int)) = true := by simp; omega
                have gpj : ¬ (N : Int) ≤ (p : Int) := by omega
                obtain ⟨r, hr⟩ : ∃ r, p % z = r := ⟨_, rfl⟩
                obtain ⟨d, hd⟩ : ∃ d, p / z = d := ⟨_, rfl⟩
                have d9 : d ≤ 1000 := by rw [← hd]; exact Nat.le_trans (Nat.div_le_self _ _) (by omega)
                have r9 : r < z := by rw [← hr]; exact Nat.mod_lt _ (by omega)
                have w1' : (p : Int) % (z : Int) = (r : Int) := by rw [← hr]; exact (Int.natCast_emod p z).symm
                have w2' : (p : Int) / (z : Int) = (d : Int) := by rw [← hd]; exact (Int.natCast_ediv p z).symm
                by_cases gr : r = j
                · have P1E := Lib.hid (show pl1 N M z j p = [d] by unfold pl1; rw [if_pos gp, hr, if_pos gr, hd])
                  have gri : (r : Int) = (j : Int) := by omega
                  clear hr hd
                  have LNE := Lib.hid (show (f ++ [d]).length = nf + 1 by rw [List.length_append, HNF.out]; rfl)
                  have PLV := Lib.hid (plv_add f d)
                  have TK2 := Lib.hid (show pls N M z j (zs.take (i + 1)) = f ++ [d] by rw [TK.out, P1E.out])
                  obtain ⟨i0, hi0, hz0, hz1, hz2⟩ := info_parts info_i64
                  have B1 := Lib.hid (HB3.out.alloc HB3.out.size (.cells #[.int .i64 (d : Nat)] 3))
                  go_wp2_with (at_builtin; refine wpList_append_own _ rfl _ _ 28 rfl w2.heap.size 3 i0 (.int .i64 0) 1 8 Tryz.underlying28 hi0 hz0 hz1 hz2 rfl (by decide) _ _ _ rfl (HO3.out.alloc _) ⟨w3.heap.size, 0, none⟩ 1 1 [.int .i64 (d : Nat)] rfl rfl cell_one (by simp [Value.oneCell']) (by unfold maxLen; omega) (by omega) B1.out.size ?_; intro v' w4 hown2 hgrow _; obtain ⟨g', cap', rfl⟩ := ownsRow_succ hown2; have HO4 := Lib.hid hown2; have BW4 := Lib.hid (B1.out.grown hgrow B1.out.size (fun k e => own_block_ge HO3.out e)); clear hown2 hgrow)
                  go_roundw
                  case rel => exact ⟨i + 1, by omega, by go_num, by rw [TK2.out, LNE.out, PLV.out]; exact HO4.out, BW4.out⟩
                  case measure => simp [intOf]; omega
                · have P1E := Lib.hid (show pl1 N M z j p = [] by unfold pl1; rw [if_pos gp, hr, if_neg gr])
                  have gri : ¬ (r : Int) = (j : Int) := by omega
                  clear hr hd
                  have TK2 := Lib.hid (show pls N M z j (zs.take (i + 1)) = f by rw [TK.out, P1E.out, List.append_nil])
                  go_wp2_with fail
                  go_roundw
                  case rel => exact ⟨i + 1, by omega, by go_num, by rw [TK2.out, HNF.out]; exact HO3.out, HB3.out⟩
                  case measure => simp [intOf]; omega
              · have gpi : decide ((p : Int) < (N : Int)) = false := by simp; omega
                have gpj : (N : Int) ≤ (p : Int) := by omega
                obtain ⟨y, hy⟩ : ∃ y, p - N = y := ⟨_, rfl⟩
                have ye : (p : Int) - (N : Int) = (y : Int) := by omega
                obtain ⟨r, hr⟩ : ∃ r, y % z = r := ⟨_, rfl⟩
                obtain ⟨d, hd⟩ : ∃ d, y / z = d := ⟨_, rfl⟩
                have d9 : d ≤ 1000 := by rw [← hd]; exact Nat.le_trans (Nat.div_le_self _ _) (by omega)
                have r9 : r < z := by rw [← hr]; exact Nat.mod_lt _ (by omega)
                have w1' : (y : Int) % (z : Int) = (r : Int) := by rw [← hr]; exact (Int.natCast_emod y z).symm
                have w2' : (y : Int) / (z : Int) = (d : Int) := by rw [← hd]; exact (Int.natCast_ediv y z).symm
                by_cases gr : r = j
                · obtain ⟨v, hv⟩ : ∃ v, M + d = v := ⟨_, rfl⟩
                  have P1E := Lib.hid (show pl1 N M z j p = [v] by unfold pl1; rw [if_neg gp, hy, hr, if_pos gr, hd, hv])
                  have ve : (M : Int) + (d : Int) = (v : Int) := by omega
                  have gri : (r : Int) = (j : Int) := by omega
                  clear hr hd hv hy
                  have LNE := Lib.hid (show (f ++ [v]).length = nf + 1 by rw [List.length_append, HNF.out]; rfl)
                  have PLV := Lib.hid (plv_add f v)
                  have TK2 := Lib.hid (show pls N M z j (zs.take (i + 1)) = f ++ [v] by rw [TK.out, P1E.out])
                  obtain ⟨i0, hi0, hz0, hz1, hz2⟩ := info_parts info_i64
                  have B1 := Lib.hid (HB3.out.alloc HB3.out.size (.cells #[.int .i64 (v : Nat)] 3))
                  go_wp2_with (at_builtin; refine wpList_append_own _ rfl _ _ 28 rfl w2.heap.size 3 i0 (.int .i64 0) 1 8 Tryz.underlying28 hi0 hz0 hz1 hz2 rfl (by decide) _ _ _ rfl (HO3.out.alloc _) ⟨w3.heap.size, 0, none⟩ 1 1 [.int .i64 (v : Nat)] rfl rfl cell_one (by simp [Value.oneCell']) (by unfold maxLen; omega) (by omega) B1.out.size ?_; intro v' w4 hown2 hgrow _; obtain ⟨g', cap', rfl⟩ := ownsRow_succ hown2; have HO4 := Lib.hid hown2; have BW4 := Lib.hid (B1.out.grown hgrow B1.out.size (fun k e => own_block_ge HO3.out e)); clear hown2 hgrow)
                  go_roundw
                  case rel => exact ⟨i + 1, by omega, by go_num, by rw [TK2.out, LNE.out, PLV.out]; exact HO4.out, BW4.out⟩
                  case measure => simp [intOf]; omega
                · have P1E := Lib.hid (show pl1 N M z j p = [] by unfold pl1; rw [if_neg gp, hy, hr, if_neg gr])
                  have gri : ¬ (r : Int) = (j : Int) := by omega
                  clear hr hd hy
                  have TK2 := Lib.hid (show pls N M z j (zs.take (i + 1)) = f by rw [TK.out, P1E.out, List.append_nil])
                  go_wp2_with fail
                  go_roundw
                  case rel => exact ⟨i + 1, by omega, by go_num, by rw [TK2.out, HNF.out]; exact HO3.out, HB3.out⟩
                  case measure => simp [intOf]; omega
            · obtain rfl : i = k := by omega
              have HFF := Lib.hid (show pls N M z j zs = f by rw [← HF.out, ← HM.out, List.take_length])
              have WI := Lib.hid (show Within (il f) (M + 8) from fun p hp => by
                unfold il at hp
                obtain ⟨q, hq, rfl⟩ := List.mem_map.1 hp
                have := PLT.out q (by rw [HFF.out]; exact hq)
                omega)
              have M1 := PP.out
              have nf9 : nf ≤ 1000 := by omega
              have RD := Lib.hid (fun w (G : Got w af nf cf f) => rdecode_any ⟨U.toArray⟩ af cf nf (M + 8) (il f) (by rw [sz, LN.out]) (by omega) (by omega) (by rw [il_len]; exact HNF.out) nf9 WI.out w G.ints)
              rw [← CC.out] at RD
              have CD := Lib.hid (show (ow ++ ob).data.toList = U by rw [CC.out])
              have G4 := Lib.hid (fun w4 (h : Below w3.heap.size w3 w4) => HG3.out.below h)
              clear ple PT PLE PLT
              go_wp2_with fail
              (with_reducible refine (PB.out _).mono ?_)
              rintro e w4 ⟨rfl, h4'⟩
              have B4' := Lib.hid h4'
              have RD2 := Lib.hid (RD.out w4 (G4.out w4 h4'))
              clear h4' PB RD G4
              go_wp2_with fail
              (with_reducible refine RD2.out.mono ?_)
              rintro e w5 ⟨fd, o', k', x', hfn, hfm, rfl, hd, h5⟩
              rw [CD.out] at hd
              have KK := Lib.hid (KU.out fd o' k' x' hfn (by rw [HFF.out]; exact hfm) hd)
              have B15 := Lib.hid (bt (bt (bt B2.out HB3.out) B4'.out) h5)
              have B05 := Lib.hid (bt HB.out B15.out)
              have HO5 := Lib.hid (own_below HO.out B15.out)
              have E5 := Lib.hid (HE.out.below B15.out)
              have S5 := Lib.hid (Nat.le_trans HS.out B15.out.size)
              have xx := Blk.dec_len hd
              rw [LN.out] at xx
              have OL := Lib.hid (show o'.length ≤ M by omega)
              have OKK0 := Lib.hid (show ∀ q, q < o'.length → j + q * z < N from fun q hq => (PI.out q).2 (by have := OL.out; omega))
              have HSU0 := Lib.hid (rdp_succ HU.out KK.out)
              have ov : (⟨o'.toArray⟩ : ByteArray).data.toList = o' := rfl
              have os' : (⟨o'.toArray⟩ : ByteArray).size = o'.length := by show o'.toArray.size = o'.length; simp
              have US := Lib.hid (fun p => Blk.udt_succ o o' z j p)
              obtain ⟨st, hst⟩ : ∃ st : ByteArray, (⟨o'.toArray⟩ : ByteArray) = st := ⟨_, rfl⟩
              rw [hst] at ov os' ⊢
              obtain ⟨ol, hol⟩ : ∃ n, o'.length = n := ⟨_, rfl⟩
              rw [hol] at os' xx OKK0
              have OLE := Lib.hid hol
              have OKK := Lib.hid OKK0.out
              have OV := Lib.hid ov
              have OS := Lib.hid os'
              have ol9 : ol ≤ 1000 := by omega
              have HSU1 := Lib.hid HSU0.out
              obtain ⟨i0, hi0, hz0, hz1, hz2⟩ := info_parts info_i64
              clear hfn hfm hd h5 KK ov hst hol HSU0 OKK0 RD2 KU
              rcases xx with ⟨rfl, _⟩ | ⟨rfl, _⟩
              · have HSU := Lib.hid HSU1.out
                have VV := Lib.hid (show ivl (cnl (Blk.upd kf j k') (Blk.upd x j 0) (j + 1)) = ivl (cnl kf x j) ++ [.int .i64 k'] by rw [cnl_succ, if_pos rfl, ivl_one])
                have LT := Lib.hid (lost_succ (x' := 0) HT.out t (by simp))
                have CN := Lib.hid (show ∀ q u, [Value.int .i64 k'][q]? = some u → (w5.alloc (.cells #[.int .i64 k'] 3)).cell? ((⟨w5.heap.size, 0, none⟩ : Addr).add q) = some u from cell_one)
                have S6 := Lib.hid (show db + 1 ≤ (w5.alloc (.cells #[.int .i64 k'] 3)).heap.size by rw [World.size_alloc]; have := S5.out; omega)
                have B6 := Lib.hid (B05.out.alloc B05.out.size (.cells #[.int .i64 k'] 3))
                have N6 := Lib.hid (E5.out.alloc (.cells #[.int .i64 k'] 3))
                have H6 := Lib.hid (HO5.out.alloc (.cells #[.int .i64 k'] 3))
                go_wp2_with (at_builtin; refine wpList_append_own _ rfl _ _ 28 rfl (db + 1) 3 i0 (.int .i64 0) 1 8 Tryz.underlying28 hi0 hz0 hz1 hz2 rfl (by decide) _ _ _ rfl H6.out ⟨w5.heap.size, 0, none⟩ 1 1 [.int .i64 k'] rfl rfl CN.out (by simp [Value.oneCell']) (by unfold maxLen; omega) (by omega) S6.out ?_; intro v' w7 hown2 hgrow _; obtain ⟨g', cap', rfl⟩ := ownsRow_succ hown2; have HO7 := Lib.hid hown2; have HB7 := Lib.hid (B6.out.grown hgrow B6.out.size (fun g e => by have := own_block_ge HO5.out e; have := HDB.out; omega)); have N7 := Lib.hid (N6.out.of_block (hgrow.block db N6.out.1 (fun e => by have := own_block_ge HO5.out e.symm; omega))); have S7 := Lib.hid (Nat.le_trans S6.out hgrow.size); clear hown2 hgrow)
                go_loopw [22] (fun u wr => ∃ q : Nat, q ≤ ol ∧ u = .int .i64 (q : Nat) ∧ wr.ownsRow (db + 1) 3 1 (.slice (some ⟨g', 0, none⟩) (j + 1) cap') (j + 1) (ivl (cnl kf x j) ++ [.int .i64 k']) ∧ NumsK .u8 wr db N (fun p => (sprd (Blk.udt o z j) (Gal.co st.data.toList) j z q p).toNat) ∧ Below w0.heap.size w0 wr ∧ db + 1 ≤ wr.heap.size) (fun u _ => ol - (intOf u).toNat)
                case atStart => exact ⟨0, Nat.zero_le _, rfl, HO7.out, N7.out.congr (fun p _ => by rw [sprd_zero]), HB7.out, S7.out⟩
                case round =>
                  obtain ⟨q, hq, rfl, hown, hE, hB, hS⟩ := hrel
                  have HOq := Lib.hid hown
                  have HEq := Lib.hid hE
                  have HBq := Lib.hid hB
                  have HSq := Lib.hid hS
                  clear hown hE hB hS
                  rename World => w8
                  by_cases hql : q < ol
                  · have kn := OKK.out q hql
                    have cq := HEq.out.cell kn
                    have fq := HEq.out.frozen kn
                    have E9 := Lib.hid (HEq.out.set (g := fun p => (sprd (Blk.udt o z j) (Gal.co st.data.toList) j z (q + 1) p).toNat) (j + q * z) (Gal.co st.data.toList q).toNat kn (by show (sprd (Blk.udt o z j) (Gal.co st.data.toList) j z (q + 1) (j + q * z)).toNat = _; rw [sprd_here jz]) (fun p _ hp => by show (sprd (Blk.udt o z j) (Gal.co st.data.toList) j z (q + 1) p).toNat = _; rw [sprd_there hp]))
                    have O9 := Lib.hid (own_set HOq.out (c := db) (i := j + q * z) (u := .int .u8 ((Gal.co st.data.toList q).toNat : Nat)) (Nat.lt_succ_self db))
                    have B9 := Lib.hid (below_set HBq.out (p := ⟨db, j + q * z, none⟩) (by show w0.heap.size ≤ db; rw [HDB.out]; exact Nat.le_refl _) (.int .u8 ((Gal.co st.data.toList q).toNat : Nat)))
                    have S9 := Lib.hid (show db + 1 ≤ (w8.setCell ⟨db, j + q * z, none⟩ (.int .u8 ((Gal.co st.data.toList q).toNat : Nat))).heap.size by rw [World.size_setCell]; exact HSq.out)
                    have bc := byte_co st q (by rw [OS.out]; exact hql)
                    obtain ⟨old, hold⟩ : ∃ vv, (sprd (Blk.udt o z j) (Gal.co st.data.toList) j z q (j + q * z)).toNat = vv := ⟨_, rfl⟩
                    rw [hold] at cq
                    obtain ⟨tq, htq⟩ : ∃ t, q * z = t := ⟨_, rfl⟩
                    have e2' : (q : Int) * (z : Int) = (tq : Int) := by rw [← htq]; exact (Int.natCast_mul q z).symm
                    rw [htq] at E9 O9 B9 S9 kn cq fq
                    obtain ⟨qq, hqq⟩ : ∃ q, j + tq = q := ⟨_, rfl⟩
                    have e3' : (j : Int) + (tq : Int) = (qq : Int) := by omega
                    rw [hqq] at E9 O9 B9 S9 kn cq fq
                    clear hold htq hqq
                    go_wp2_with fail
                    go_roundw
                    case rel => exact ⟨q + 1, by omega, by go_num, O9.out, E9.out, B9.out, S9.out⟩
                    case measure => simp [intOf]; omega
                  · obtain rfl : q = ol := by omega
                    have EU := Lib.hid (show NumsK .u8 w8 db N (fun p => (Blk.udt (Blk.upd o j o') z (j + 1) p).toNat) from HEq.out.congr (fun p _ => by rw [OV.out, ← US.out p, OLE.out]))
                    go_wp2_with fail
                    go_roundw
                    case rel => exact ⟨j + 1, t, Blk.upd o j o', Blk.upd kf j k', Blk.upd x j 0, by omega, by rw [VV.out]; exact HOq.out, rfl, by go_num, HSU.out, LT.out, EU.out, HBq.out, HSq.out⟩
                    case measure => simp [intOf]; omega
              · have HSU := Lib.hid HSU1.out
                have VV := Lib.hid (show ivl (cnl (Blk.upd kf j k') (Blk.upd x j 50) (j + 1)) = ivl (cnl kf x j) ++ [.int .i64 (-1)] by rw [cnl_succ, if_neg (by decide), ivl_one])
                have LT := Lib.hid ((lost_succ (x' := 50) HT.out true (by simp)).1 rfl)
                have CN := Lib.hid (show ∀ q u, [Value.int .i64 (-1)][q]? = some u → (w5.alloc (.cells #[.int .i64 (-1)] 3)).cell? ((⟨w5.heap.size, 0, none⟩ : Addr).add q) = some u from cell_one)
                have S6 := Lib.hid (show db + 1 ≤ (w5.alloc (.cells #[.int .i64 (-1)] 3)).heap.size by rw [World.size_alloc]; have := S5.out; omega)
                have B6 := Lib.hid (B05.out.alloc B05.out.size (.cells #[.int .i64 (-1)] 3))
                have N6 := Lib.hid (E5.out.alloc (.cells #[.int .i64 (-1)] 3))
                have H6 := Lib.hid (HO5.out.alloc (.cells #[.int .i64 (-1)] 3))
                go_wp2_with (at_builtin; refine wpList_append_own _ rfl _ _ 28 rfl (db + 1) 3 i0 (.int .i64 0) 1 8 Tryz.underlying28 hi0 hz0 hz1 hz2 rfl (by decide) _ _ _ rfl H6.out ⟨w5.heap.size, 0, none⟩ 1 1 [.int .i64 (-1)] rfl rfl CN.out (by simp [Value.oneCell']) (by unfold maxLen; omega) (by omega) S6.out ?_; intro v' w7 hown2 hgrow _; obtain ⟨g', cap', rfl⟩ := ownsRow_succ hown2; have HO7 := Lib.hid hown2; have HB7 := Lib.hid (B6.out.grown hgrow B6.out.size (fun g e => by have := own_block_ge HO5.out e; have := HDB.out; omega)); have N7 := Lib.hid (N6.out.of_block (hgrow.block db N6.out.1 (fun e => by have := own_block_ge HO5.out e.symm; omega))); have S7 := Lib.hid (Nat.le_trans S6.out hgrow.size); clear hown2 hgrow)
                go_loopw [22] (fun u wr => ∃ q : Nat, q ≤ ol ∧ u = .int .i64 (q : Nat) ∧ wr.ownsRow (db + 1) 3 1 (.slice (some ⟨g', 0, none⟩) (j + 1) cap') (j + 1) (ivl (cnl kf x j) ++ [.int .i64 (-1)]) ∧ NumsK .u8 wr db N (fun p => (sprd (Blk.udt o z j) (Gal.co st.data.toList) j z q p).toNat) ∧ Below w0.heap.size w0 wr ∧ db + 1 ≤ wr.heap.size) (fun u _ => ol - (intOf u).toNat)
                case atStart => exact ⟨0, Nat.zero_le _, rfl, HO7.out, N7.out.congr (fun p _ => by rw [sprd_zero]), HB7.out, S7.out⟩
                case round =>
                  obtain ⟨q, hq, rfl, hown, hE, hB, hS⟩ := hrel
                  have HOq := Lib.hid hown
                  have HEq := Lib.hid hE
                  have HBq := Lib.hid hB
                  have HSq := Lib.hid hS
                  clear hown hE hB hS
                  rename World => w8
                  by_cases hql : q < ol
                  · have kn := OKK.out q hql
                    have cq := HEq.out.cell kn
                    have fq := HEq.out.frozen kn
                    have E9 := Lib.hid (HEq.out.set (g := fun p => (sprd (Blk.udt o z j) (Gal.co st.data.toList) j z (q + 1) p).toNat) (j + q * z) (Gal.co st.data.toList q).toNat kn (by show (sprd (Blk.udt o z j) (Gal.co st.data.toList) j z (q + 1) (j + q * z)).toNat = _; rw [sprd_here jz]) (fun p _ hp => by show (sprd (Blk.udt o z j) (Gal.co st.data.toList) j z (q + 1) p).toNat = _; rw [sprd_there hp]))
                    have O9 := Lib.hid (own_set HOq.out (c := db) (i := j + q * z) (u := .int .u8 ((Gal.co st.data.toList q).toNat : Nat)) (Nat.lt_succ_self db))
                    have B9 := Lib.hid (below_set HBq.out (p := ⟨db, j + q * z, none⟩) (by show w0.heap.size ≤ db; rw [HDB.out]; exact Nat.le_refl _) (.int .u8 ((Gal.co st.data.toList q).toNat : Nat)))
                    have S9 := Lib.hid (show db + 1 ≤ (w8.setCell ⟨db, j + q * z, none⟩ (.int .u8 ((Gal.co st.data.toList q).toNat : Nat))).heap.size by rw [World.size_setCell]; exact HSq.out)
                    have bc := byte_co st q (by rw [OS.out]; exact hql)
                    obtain ⟨old, hold⟩ : ∃ vv, (sprd (Blk.udt o z j) (Gal.co st.data.toList) j z q (j + q * z)).toNat = vv := ⟨_, rfl⟩
                    rw [hold] at cq
                    obtain ⟨tq, htq⟩ : ∃ t, q * z = t := ⟨_, rfl⟩
                    have e2' : (q : Int) * (z : Int) = (tq : Int) := by rw [← htq]; exact (Int.natCast_mul q z).symm
                    rw [htq] at E9 O9 B9 S9 kn cq fq
                    obtain ⟨qq, hqq⟩ : ∃ q, j + tq = q := ⟨_, rfl⟩
                    have e3' : (j : Int) + (tq : Int) = (qq : Int) := by omega
                    rw [hqq] at E9 O9 B9 S9 kn cq fq
                    clear hold htq hqq
                    go_wp2_with fail
                    go_roundw
                    case rel => exact ⟨q + 1, by omega, by go_num, O9.out, E9.out, B9.out, S9.out⟩
                    case measure => simp [intOf]; omega
                  · obtain rfl : q = ol := by omega
                    have EU := Lib.hid (show NumsK .u8 w8 db N (fun p => (Blk.udt (Blk.upd o j o') z (j + 1) p).toNat) from HEq.out.congr (fun p _ => by rw [OV.out, ← US.out p, OLE.out]))
                    go_wp2_with fail
                    go_roundw
                    case rel => exact ⟨j + 1, true, Blk.upd o j o', Blk.upd kf j k', Blk.upd x j 50, by omega, by rw [VV.out]; exact HOq.out, rfl, by go_num, HSU.out, ⟨fun _ => LT.out, fun _ => rfl⟩, EU.out, HBq.out, HSq.out⟩
                    case measure => simp [intOf]; omega
        · obtain rfl : j = z := by omega
          obtain ⟨la, lc, rfl, hI⟩ := ints_own HO.out (cnl_len kf x j)
          have FIN := Lib.hid (fun (e : Ending) (he : e = .returned (.tuple #[.string (bif t then ⟨#[]⟩ else ⟨(Gal.coefs (Blk.udt o j j) N).toArray⟩), .slice la j lc, .int .i64 (bif t then 50 else 0)])) => (show RUnP S zs N j w0 e w1 from ⟨o, kf, x, la, lc, t, HU.out, HT.out, he, hI, HB.out⟩))
          have CV := Lib.hid (nums_back N HE.out)
          obtain ⟨ds, hds⟩ : ∃ s : ByteArray, (⟨(Gal.coefs (Blk.udt o j j) N).toArray⟩ : ByteArray) = s := ⟨_, rfl⟩
          rw [hds] at FIN CV
          clear hds hI HU HT HE HO
          cases t with
          | true =>
            go_wp2_with fail
            go_ret3
            exact FIN.out _ rfl
          | false =>
            go_wp2_with (simp only [CV.out])
            go_ret3
            exact FIN.out _ rfl
end Go.Proofs.YtlpjhmafplljaaaGreatDoor
