/- Layer 8, the landed program: take. -/
import Derived.Test.YtlfnglinalmpjaaMkPTk
namespace Go.Proofs.Ytlfnglinalmpjaa
open Go.RowKit
set_option linter.unusedVariables false

set_option maxRecDepth 100000 in
set_option maxHeartbeats 4000000 in
theorem take_any (own0 S : Nat → Prop) (w0 : World) (P Q0 len base T ms : Nat) (lk : Bool) (ks : List Int) (kv bv : Value) (l : List (Nat × Nat × List Int)) (cs : List Value) (h1 : 1 ≤ len) (h2 : len ≤ 20000) (z : Int) (hk : ks.length ≤ 30000) (hT : T ≤ 1000000) (hms : ms ≤ 3) (hl : l.length ≤ 1000000) (hKT : ks.length ≤ T) (w : World)
    (h : Tk own0 w0 P Q0 len base w T ms lk ks kv bv S l cs) :
    Calls Try.prog 38 #[.pointer (some ⟨P, 0, none⟩), .int .i64 z] w (TkP own0 w0 P Q0 len base (T + 1) l (tkF len (T + 1) ms lk (ks ++ [z]))) := by
  obtain ⟨ka, kc, rfl⟩ := own_is h.row
  obtain ⟨n, hn⟩ : ∃ n, ks.length = n := ⟨_, rfl⟩
  obtain ⟨m, hm⟩ : ∃ m, n + 1 = m := ⟨_, rfl⟩
  obtain ⟨T1, hT1⟩ : ∃ x, T + 1 = x := ⟨_, rfl⟩
  obtain ⟨k1, hk1⟩ : ∃ k1, ks ++ [z] = k1 := ⟨_, rfl⟩
  obtain ⟨i0, hi0, hz0, hz1, hz2⟩ := info_parts info_i64
  have c5 := h.obj.cell (j := 5) (by omega)
  simp only [pobj] at c5
  have KL := Lib.hid (show k1.length = m by rw [← hk1, List.length_append, hn]; exact hm)
  have HK1 := Lib.hid hk1
  have HMM := Lib.hid hm
  have HTT := Lib.hid hT1
  have K0 := Lib.hid h
  rw [hk1, hT1]
  rw [hn] at c5 hk hKT
  obtain ⟨w1, hw1⟩ : ∃ w1, w.alloc (.cells #[.int .i64 z] 3) = w1 := ⟨_, rfl⟩
  have HW1 := Lib.hid hw1
  have B1 := Lib.hid (show Below w.heap.size w w1 from hw1 ▸ ba (Below.refl _ _) _)
  have NC := Lib.hid (show ∀ j u, ([.int .i64 z] : List Value)[j]? = some u → w1.cell? ((⟨w.heap.size, 0, none⟩ : Addr).add j) = some u from fun j u hu => by
    rw [add_off, Nat.zero_add, ← hw1, World.cell?_alloc_new]
    simpa using hu)
  have K1 := Lib.hid (K0.out.below B1.out)
  have R1 := Lib.hid (show w1.ownsRow base 3 1 (.slice ka n kc) n (ks.map (Value.int .i64)) from by have := K1.out.row; rw [hn] at this; exact this)
  have BS := Lib.hid (show base ≤ w1.heap.size from Nat.le_trans K1.out.base0 K1.out.but.size)
  have CT := Lib.hid (fun kv2 w3 F => count_any P T len ms lk ⟨P, 0, none⟩ kv2 (hnd Q0) T1 HTT.out (by omega) w3 F)
  rw [hn] at K0 K1
  clear h hw1 hk1 hT1 hm
  go_enter Try.func38, Try.ntmps38
  go_wp2_with (first
    | (at_builtin; refine wpList_append_own2 rfl _ _ 29 rfl base 3 i0 (.int .i64 0) 1 8 Try.underlying29 hi0 hz0 hz1 hz2 rfl (by decide) (.slice ka n kc) n (ks.map (Value.int .i64)) rfl R1.out ⟨w.heap.size, 0, none⟩ 1 1 [.int .i64 z] rfl rfl NC.out (fun u hu => by simp at hu; subst hu; rfl) (by unfold maxLen; omega) (by omega) BS.out ?_; intro kv2 w2 hown2 hgrow2 hblk2; rw [HMM.out] at hown2; obtain ⟨k2a, k2c, rfl⟩ := own_is hown2; have F2 := K1.out.obj.of_block (hgrow2.block P K1.out.obj.1 (fun e => (K1.out.kn P e.symm).1 rfl)); have m5 := F2.cell (j := 5) (by omega); have z5 := F2.frozen (j := 5) (by omega); simp only [pobj] at m5; have HF2 := Lib.hid F2; have HO2 := Lib.hid hown2; have HG2 := Lib.hid hgrow2; have HB2 := Lib.hid hblk2; clear F2 hown2 hgrow2 hblk2)
    | simp only [HW1.out])
  have N2 := Lib.hid (show ∀ k, (Value.slice k2a m k2c).ownBlock = some k → (Value.slice ka n kc).ownBlock = some k ∨ w.heap.size ≤ k from fun k hk => by
    rcases HB2.out with g | g
    · exact .inl (g.symm.trans hk)
    · have h3 : some k = some w1.heap.size := hk.symm.trans g
      have := B1.out.size
      simp only [Option.some.injEq] at h3
      exact .inr (by omega))
  have NP := Lib.hid (show ∀ k, (Value.slice k2a m k2c).ownBlock = some k → k ≠ P from fun k hk => by
    have := K0.out.obj.1
    rcases N2.out k hk with g | g
    · exact (K0.out.kn k g).1
    · omega)
  have U2 := Lib.hid (show Buts (fun k => k = P ∨ (Value.slice ka n kc).ownBlock = some k) w w2 from (Buts.of_below B1.out).trans (Buts.of_grown HG2.out (fun k hk => .inr hk)))
  have F3 := Lib.hid ((HF2.out.set 5 (.slice k2a m k2c)).congr (pobj_set5 ⟨P, 0, none⟩ len T lk ms _ (.slice k2a m k2c) (hnd Q0)))
  (with_reducible refine (CT.out (.slice k2a m k2c) _ F3.out).mono ?_)
  rintro e w4 ⟨rfl, F4, B4⟩
  have K4 := Lib.hid (show Tk own0 w0 P Q0 len base w4 T1 ms lk k1 (.slice k2a m k2c) bv S l cs from by
    have b3 := (But.refl P w2).setCell 5 (.slice k2a m k2c)
    refine K0.out.kept ((U2.out.trans (Buts.of_but b3 (.inl rfl))).trans (Buts.of_but B4 (.inl rfl))) F4 ?_ N2.out
    have o2 := HO2.out
    rw [KL.out, ← HK1.out, List.map_append]
    refine own_keep (own_keep o2 (fun k hk hl => b3.rest k hl (NP.out k hk))) (fun k hk hl => B4.rest k hl (NP.out k hk)))
  clear F4 B4 F3 U2 N2 HB2 HG2 HO2 HF2 m5 z5 BS R1 K1 NC HW1 K0 CT c5 hi0 hz0 hz1 hz2 NP
  have c5 := K4.out.obj.cell (j := 5) (by omega)
  simp only [pobj] at c5
  obtain ⟨g, cap, hv, hcap, lg⟩ := own_at0 K4.out.row (show 0 < k1.length by rw [KL.out]; have := HMM.out; omega)
  simp only [Value.slice.injEq] at hv
  obtain ⟨rfl, hvm, rfl⟩ := hv
  clear hvm
  have R4 := Lib.hid (show w4.ownsRow base 3 1 (.slice (some ⟨g, 0, none⟩) m k2c) m (k1.map (Value.int .i64)) from by have := K4.out.row; rw [KL.out] at this; exact this)
  rw [KL.out] at hcap
  have cm : k2c ≤ maxLen := by
    rcases R4.out.2 with ⟨e, _⟩ | ⟨_, _, _, e, _, _, _, h, _⟩
    · cases e
    · simp only [Value.slice.injEq] at e
      omega
  have gP := (K4.out.kn g rfl).1
  have RI := Lib.hid (ints_of_own R4.out).1
  have mb : m ≤ 30001 := by have := HMM.out; omega
  have Tb : T1 ≤ 1000001 := by have := HTT.out; omega
  have mT : m ≤ T1 := by have := HTT.out; have := HMM.out; omega
  clear w1 w2 B1
  by_cases e32 : m = 32
  · have t1 : ((m : Int) == 32) = true := by simp; omega
    obtain ⟨fo, hfo⟩ : ∃ b, decide (Mk.wrongAt (fz k1) 0 32 ≤ 2) = b := ⟨_, rfl⟩
    have HFO := Lib.hid hfo
    obtain ⟨lk2, hlk⟩ : ∃ b, ntL lk ms fo = b := ⟨_, rfl⟩
    obtain ⟨ms2, hms2⟩ : ∃ b, ntM lk ms fo = b := ⟨_, rfl⟩
    have TF := Lib.hid (show tkF len T1 ms lk k1 = (ms2, lk2, if lk2 = true then k1 else k1.drop 1, []) from by
      unfold tkF
      rw [KL.out, if_pos e32, hfo, hlk, hms2])
    have C4 := Lib.hid c5
    have NT := Lib.hid (fun w5 F => note_any P T1 len ms lk ⟨P, 0, none⟩ (.slice (some ⟨g, 0, none⟩) m k2c) (hnd Q0) fo (by omega) w5 F)
    rw [hlk, hms2] at NT
    clear hfo hlk hms2
    go_upto_region 4 with fail
    refine tkRegion P g m k2c k1 fo KL.out (by omega) hcap cm K4.out.obj.1 RI.out C4.out HFO.out (by kernel_rfl) rfl rfl rfl rfl rfl rfl rfl rfl rfl rfl rfl ?_
    intro w5 B5
    simp only [Act.put, List.setIfInBounds_toArray, List.set_cons_succ, List.set_cons_zero]
    have K5 := Lib.hid (K4.out.below B5)
    clear B5 c5 C4
    go_wp2_with fail
    (with_reducible refine (NT.out _ K5.out.obj).mono ?_)
    rintro e w6 ⟨rfl, F6, B6⟩
    have K6 := Lib.hid (K5.out.kept (Buts.of_but B6 (.inl rfl)) F6 (own_keep K5.out.row (fun k hk hl => B6.rest k hl (K5.out.kn k hk).1)) (fun k hk => .inl hk))
    have c1 := F6.cell (j := 1) (by omega)
    simp only [pobj] at c1
    clear F6 B6 NT K5
    cases lk2 with
    | true =>
      go_wp2_with fail
      go_end0
      exact ⟨_, _, _, _, rfl, by rw [TF.out]; simpa using K6.out⟩
    | false =>
      obtain ⟨md, hmd⟩ : ∃ md, md + 1 = m := ⟨m - 1, by omega⟩
      have dr := drop_any P len T1 ms2 g m k2c 1 md base false ⟨P, 0, none⟩ (hnd Q0) k1 KL.out hmd (by omega) cm gP w6 K6.out.obj (by have := K6.out.row; rw [KL.out] at this; exact this)
      rw [show ((1 : Nat) : Int) = 1 from rfl] at dr
      have DR := Lib.hid dr
      have LD := Lib.hid (show (k1.drop 1).length = md by rw [List.length_drop, KL.out]; omega)
      clear hmd dr
      go_wp2_with fail
      (with_reducible refine (DR.out).mono ?_)
      rintro e w7 ⟨rfl, F7, R7, B7⟩
      have K7 := Lib.hid (K6.out.kept (ks' := k1.drop 1) (B7.mono (fun k hk => hk.imp id (fun e => by rw [e]; rfl))) F7 (by rw [LD.out]; exact R7) (fun k hk => .inl hk))
      clear F7 R7 B7
      go_wp2_with fail
      go_end0
      exact ⟨_, _, _, _, rfl, by rw [TF.out]; simpa using K7.out⟩
  · have t1 : ((m : Int) == 32) = false := by simp; omega
    have c4 := K4.out.obj.cell (j := 4) (by omega)
    simp only [pobj] at c4
    by_cases eb : m = 32 + len
    · have t2 : (32 : Int) + (len : Int) = (m : Int) := by omega
      have t3 : ((m : Int) == (m : Int)) = true := by simp
      obtain ⟨p, hp⟩ : ∃ p, p + m = T1 := ⟨T1 - m, by omega⟩
      obtain ⟨wn, hwn⟩ : ∃ x, Mk.wrongAt (fz k1) 0 32 = x := ⟨_, rfl⟩
      have TF := Lib.hid (show tkF len T1 ms lk k1 = (ms, lk, [], [(p, wn, k1.drop 32)]) from by
        unfold tkF
        rw [KL.out, if_neg e32, if_pos eb, hwn, show T1 - m = p by omega])
      have HP := Lib.hid hp
      have HWN := Lib.hid hwn
      have C5 := Lib.hid c5
      have C0 := Lib.hid (show w4.cell? ⟨P, 0, none⟩ = some (.int .i64 (T1 : Nat)) from K4.out.obj.cell (j := 0) (by omega))
      have C6 := Lib.hid (show w4.cell? ⟨P, 6, none⟩ = some (hnd Q0) from K4.out.obj.cell (j := 6) (by omega))
      have NL := Lib.hid (show ((k1.drop 32).map (Value.int .i64)).length = len by rw [List.length_map, List.length_drop, KL.out]; omega)
      have NW := Lib.hid (show ∀ j u, ((k1.drop 32).map (Value.int .i64))[j]? = some u → w4.cell? ⟨g, 32 + j, none⟩ = some u from fun j u hu => by
        rw [List.getElem?_map, List.getElem?_drop] at hu
        have := R4.out.cells (g := g) rfl (32 + j) u (by rw [List.getElem?_map]; exact hu)
        rw [add_off, Nat.zero_add] at this
        exact this)
      have N1 := Lib.hid (show ∀ u ∈ (k1.drop 32).map (Value.int .i64), u.oneCell' = true from fun u hu => by
        obtain ⟨_, _, rfl⟩ := List.mem_map.1 hu
        rfl)
      have HD := Lib.hid (fun (w5 : World) (B5 : Below w4.heap.size w4 w5) sa sc => hand_any Q0 w0.heap.size l.length bv cs p wn len sc sa hl (fun e => (K4.out.bn Q0 e).1 rfl) w5 (Nat.le_trans K4.out.but.size B5.size) (K4.out.box.below B5) (own_below K4.out.out B5))
      have eb1 : 32 + len ≤ m := by omega
      have eb2 : m ≤ 32 + len := by omega
      clear hp hwn eb
      go_upto_region 8 with fail
      refine hdRegion P Q0 g m len k2c T1 p w4.heap.size k1 ((k1.drop 32).map (Value.int .i64)) KL.out (by omega) hcap cm K4.out.obj.1 RI.out C5.out (by omega) (by omega) (by omega) HP.out (by omega) (Nat.le_refl _) lg NL.out C0.out C6.out NW.out N1.out (by kernel_rfl) rfl rfl rfl rfl rfl rfl rfl rfl rfl rfl rfl rfl rfl rfl rfl rfl rfl rfl rfl rfl rfl rfl rfl rfl rfl rfl rfl rfl rfl ?_
      rintro v25 v26 w5 B5 F25 ⟨sv, rfl, hsv⟩
      obtain ⟨sa, sc, rfl⟩ := own_is hsv
      simp only [Act.put, List.setIfInBounds_toArray, List.set_cons_succ, List.set_cons_zero]
      have HB5 := Lib.hid B5
      have HS5 := Lib.hid hsv
      clear B5 F25 hsv c5 c4 C5 C0 C6 NW N1 RI
      rw [HWN.out]
      go_wp2_with fail
      (with_reducible refine (HD.out _ HB5.out sa sc).mono ?_)
      rintro e w6 ⟨bv2, rfl, C6, R6, n6, B6⟩
      have K6 := Lib.hid (K4.out.hand (zs := k1.drop 32) HB5.out (by have := HS5.out; rw [← NL.out, List.length_map] at this; rw [← NL.out, List.length_map]; exact this) C6 R6 n6 B6)
      clear C6 R6 n6 B6 HD HS5 HB5 K4
      have c5 := K6.out.obj.cell (j := 5) (by omega)
      simp only [pobj] at c5
      have DR := Lib.hid (drop_any P len T1 ms g m k2c m 0 base lk ⟨P, 0, none⟩ (hnd Q0) k1 KL.out (by omega) (by omega) cm gP w6 K6.out.obj (by have := K6.out.row; rw [KL.out] at this; exact this))
      have LD := Lib.hid (show k1.drop m = [] from List.drop_eq_nil_of_le (by rw [KL.out]; omega))
      go_wp2_with fail
      (with_reducible refine (DR.out).mono ?_)
      rintro e w7 ⟨rfl, F7, R7, B7⟩
      rw [LD.out] at R7
      have K7 := Lib.hid (K6.out.kept (ks' := []) (B7.mono (fun k hk => hk.imp id (fun e => by rw [e]; rfl))) F7 R7 (fun k hk => .inl hk))
      clear F7 R7 B7
      go_wp2_with fail
      go_end0
      exact ⟨_, _, _, _, rfl, by rw [TF.out]; exact K7.out⟩
    · obtain ⟨b, hb⟩ : ∃ b, 32 + len = b := ⟨_, rfl⟩
      have t2 : (32 : Int) + (len : Int) = (b : Int) := by omega
      have t3 : ((m : Int) == (b : Int)) = false := by simp; omega
      have TF := Lib.hid (show tkF len T1 ms lk k1 = (ms, lk, k1, []) from by
        unfold tkF
        rw [KL.out, if_neg e32, if_neg eb])
      clear hb
      go_wp2_with fail
      go_end0
      exact ⟨_, _, _, _, rfl, by rw [TF.out]; simpa using K4.out⟩
end Go.Proofs.Ytlfnglinalmpjaa
