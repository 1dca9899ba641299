/- MarkerPortions: the walk over the finder as the laws see it. -/
import Derived.Test.YtlfnglinalmpjaaMkPort
import Derived.IntWalk
namespace Go.Proofs.Ytlfnglinalmpjaa
open Go.RowKit
set_option linter.unusedVariables false

theorem softOk_08 : softOk [0, 8] = false := by decide
theorem runs_none (len : Nat) : Mk.Runs (fz []) len 0 Mk.Fs.init [] Mk.Fs.init := Mk.Runs.done (by
  unfold Mk.next
  simp [Mk.Fs.init])
theorem ints_take_any {w : World} {a : Option Addr} {ys : List Int} (h : Ints w a ys) (k : Nat) : Ints w a (ys.take k) := by
  rcases h with h | ⟨b, off, rfl, hl, hc⟩
  · exact .inl (by rw [h]; simp)
  · exact ints_take (.inr ⟨b, off, rfl, hl, hc⟩) k
theorem ints_eight (w : World) (t : TypeId) : Ints (w.alloc (.cells #[.int .i64 0, .int .i64 8] t)) (some ⟨w.heap.size, 0, none⟩) [0, 8] := .inr ⟨w.heap.size, 0, rfl, by rw [World.size_alloc]; omega, fun j hj => by
  match j, hj with
  | 0, _ => rw [World.cell?_alloc_new]; rfl
  | 1, _ => rw [World.cell?_alloc_new]; rfl⟩
/-- The rest of the stream, as a slice. -/
def Rst (w : World) (gS : Nat) (all : List Int) (p : Nat) (ra : Option Addr) (rn rc : Nat) : Prop :=
  rn = all.length - p ∧ Ints w ra (all.drop p) ∧ rn ≤ rc ∧ (ra = none → rc = 0) ∧ ∀ a, ra = some a → ∃ off, a = ⟨gS, off, none⟩
set_option maxRecDepth 100000 in
set_option maxHeartbeats 1000000 in
theorem mportions_walk (AW : ∀ w, Calls Try.prog 9 #[] w fun e w' => e = .returned (.bool true) ∧ Below w.heap.size w w')
    (ao : Option Addr) (cap : Nat) (l : List PartV) (hl : l.length ≤ cap) (hm : cap ≤ maxLen) (len : Int) (ap : Option Addr) (pc : Nat) (ps : List Int) (hpl : ps.length ≤ pc) (hpm : pc ≤ maxLen) (hpw : ∀ n ∈ ps, (Lit.int .i64 n).wf = true) (w : World) (R : Parts w ao l) (RP : Ints w ap ps) :
    Calls Try.prog 5 #[.slice ao l.length cap, .int .i64 len, .slice ap ps.length pc] w fun e w' => e = .returned (.bool true) ∧ Below w.heap.size w w' := by
  have AWH := Lib.hid AW
  obtain ⟨n, hn⟩ : ∃ n, l.length = n := ⟨_, rfl⟩
  obtain ⟨np, hnp⟩ : ∃ n, ps.length = n := ⟨_, rfl⟩
  have GR := Lib.hid (fun w => great_any ao n cap len w)
  rw [hn] at hl ⊢
  rw [hnp] at hpl ⊢
  have HN := Lib.hid hn
  have HNP := Lib.hid hnp
  have HR := Lib.hid R
  have HP := Lib.hid RP
  have HW := Lib.hid hpw
  have B0 := Lib.hid (Below.refl w.heap.size w)
  unfold maxLen at hm hpm
  clear R RP hn hnp hpw AW
  by_cases h1 : 30 < n ∨ 300 < len
  · rw [decide_eq_true h1] at GR
    clear h1
    go_enter Try.func5, Try.ntmps5
    go_wp2_with fail
    (with_reducible refine (GR.out _).mono ?_)
    rintro e w1 ⟨rfl, rfl⟩
    go_wp2_with fail
    (with_reducible refine (AWH.out _).mono ?_)
    rintro e w1 ⟨rfl, h1⟩
    go_wp2_with fail
    go_ret
    exact ⟨rfl, h1⟩
  rw [decide_eq_false h1] at GR
  by_cases h2 : 100 < np
  · have d2 : decide ((100 : Int) < (np : Int)) = true := by simp; omega
    clear h1
    go_enter Try.func5, Try.ntmps5
    go_wp2_with fail
    (with_reducible refine (GR.out _).mono ?_)
    rintro e w1 ⟨rfl, rfl⟩
    go_wp2_with fail
    (with_reducible refine (AWH.out _).mono ?_)
    rintro e w1 ⟨rfl, h1⟩
    go_wp2_with fail
    go_ret
    exact ⟨rfl, h1⟩
  have d2 : decide ((100 : Int) < (np : Int)) = false := by simp; omega
  by_cases h3 : len < 1
  · have d3 : decide (len < (1 : Int)) = true := by simp; omega
    clear h1
    go_enter Try.func5, Try.ntmps5
    go_wp2_with fail
    (with_reducible refine (GR.out _).mono ?_)
    rintro e w1 ⟨rfl, rfl⟩
    go_wp2_with fail
    (with_reducible refine (AWH.out _).mono ?_)
    rintro e w1 ⟨rfl, h1⟩
    go_wp2_with fail
    go_ret
    exact ⟨rfl, h1⟩
  have d3 : decide (len < (1 : Int)) = false := by simp; omega
  obtain ⟨L, rfl⟩ : ∃ L : Nat, len = (L : Int) := ⟨len.toNat, by omega⟩
  have L1 : 1 ≤ L := by omega
  have L3 : L ≤ 300 := by omega
  have n30 : n ≤ 30 := by omega
  have PN := Lib.hid (fun w => pnew_any L L1 (by omega) w)
  have SR := Lib.hid (fun w' (q : Below w.heap.size w w') => stream_any ao cap l n HN.out n30 L L3 w' (HR.out.below q))
  clear h1 h3
  go_enter Try.func5, Try.ntmps5
  go_wp2_with fail
  (with_reducible refine (GR.out _).mono ?_)
  rintro e w1 ⟨rfl, rfl⟩
  go_wp2_with fail
  (with_reducible refine (PN.out _).mono ?_)
  rintro e w1 ⟨ownF, F, rfl, p1, o1, h4⟩
  have P1 := Lib.hid p1
  have O1 := Lib.hid o1
  have H4 := Lib.hid h4
  clear p1 o1 h4 GR
  go_wp2_with fail
  (with_reducible refine (PN.out _).mono ?_)
  rintro e w2 ⟨ownG, G, rfl, p2, o2, h5⟩
  have P2 := Lib.hid p2
  have O2 := Lib.hid o2
  have H5 := Lib.hid h5
  have B2 := Lib.hid (bt H4.out h5)
  clear p2 o2 h5 PN
  go_wp2_with fail
  (with_reducible refine (SR.out _ B2.out).mono ?_)
  rintro e w3 ⟨sv, all, rfl, so, ss, sl, h6⟩
  obtain ⟨sa, sc, rfl⟩ := own_is so
  have B3 := Lib.hid (bt B2.out h6)
  obtain ⟨si, _, scl⟩ := ints_of_own so
  have SI := Lib.hid si
  have SO := Lib.hid (soft_list ss)
  have SS := Lib.hid ss
  obtain ⟨N, hN⟩ : ∃ N, all.length = N := ⟨_, rfl⟩
  have N9 : N ≤ 9960 := by omega
  have GSS := Lib.hid (show ∃ gS, w2.heap.size ≤ gS ∧ (0 < N → gS < w3.heap.size) ∧ Rst w3 gS all 0 sa N sc from by
    rcases so.2 with ⟨hv, h0⟩ | ⟨g, c, cur, hv, hg, hh, _⟩
    · simp only [Value.slice.injEq] at hv
      exact ⟨w2.heap.size, Nat.le_refl _, fun h => by omega, by omega, by simpa using si, by omega, fun _ => hv.2.2, fun a e => by rw [hv.1] at e; cases e⟩
    · simp only [Value.slice.injEq] at hv
      exact ⟨g, hg, fun _ => (Array.getElem?_eq_some_iff.1 hh).1, by omega, by simpa using si, by omega, (fun (e : sa = none) => by rw [hv.1] at e; cases e), fun a e => ⟨0, by rw [hv.1] at e; cases e; rfl⟩⟩)
  have PFD := Lib.hid (pfeed_any ownF w3 (.pointer (some F)) L [] Mk.Fs.init ((P1.out.below H5.out).below h6) L1 (by omega) sa N sc all hN (by simp only [List.length_nil]; omega) si SO.out (fun h0 g' o' e q => by obtain ⟨gS, q1, _, q3⟩ := GSS.out; have q4 := q3.2.2.2.2 _ e; obtain ⟨off', e2⟩ := q4; simp only [Addr.mk.injEq] at e2; obtain ⟨rfl, _, _⟩ := e2; have := (P1.out.below H5.out).lt _ q; omega))
  have H6 := Lib.hid h6
  have HN2 := Lib.hid hN
  rw [hN]
  rw [hN] at sl scl
  clear so ss si h6 SR hN
  go_wp2_with fail
  (with_reducible refine PFD.out.mono ?_)
  rintro e w4 ⟨own4, oA, tA, aa, ac, rfl, hac, runsA, pf4, own4n, brA, buA⟩
  obtain ⟨gS, g1, g2, rs0⟩ := GSS.out
  have ap0 : ∀ k, ownF k → ¬ ownG k := fun k hf hg => by
    have := P1.out.lt k hf
    have := O2.out k hg
    omega
  have gG : ¬ ownG gS := fun hg => by
    have := P2.out.lt gS hg
    omega
  have gF : ¬ ownF gS := fun hf => by
    have := P1.out.lt gS hf
    have := H5.out.size
    omega
  have s43 : w3.heap.size ≤ w4.heap.size := buA.size
  have kp : ∀ {a : Option Addr} {zs : List Int}, (∀ x, a = some x → ∃ off, x = ⟨gS, off, none⟩) → Ints w3 a zs → Ints w4 a zs := fun ha hi => by
    rcases hi with h | ⟨b', off, rfl, hb, hc⟩
    · exact .inl h
    · obtain ⟨off', e⟩ := ha _ rfl
      simp only [Addr.mk.injEq] at e
      obtain ⟨rfl, _, _⟩ := e
      exact .inr ⟨_, off, rfl, Nat.lt_of_lt_of_le hb s43, fun j hj => (World.cell?_of_block (w := w3) (a := ⟨b', off + j, none⟩) (buA.block b' hb gF)).trans (hc j hj)⟩
  have RS4 := Lib.hid (show Rst w4 gS all 0 sa N sc from ⟨rs0.1, kp rs0.2.2.2.2 rs0.2.1, rs0.2.2.1, rs0.2.2.2.1, rs0.2.2.2.2⟩)
  have SI4 := Lib.hid (kp rs0.2.2.2.2 SI.out)
  have RS5 := Lib.hid rs0.2.2.2.2
  have G4 := Lib.hid (show 0 < N → gS < w4.heap.size from fun h => Nat.lt_of_lt_of_le (g2 h) s43)
  have GG := Lib.hid gG
  have J0 := Lib.hid (show PoI w4 w4 L G ownG ownG all 0 Mk.Fs.init [] (.slice none 0 0) [] from
    ⟨(((P2.out).below H6.out).keep buA.size (fun k hk hg => buA.block k hk (fun hf => ap0 k hf hg))), Nat.zero_le _, runs_none L, Nat.le_refl _, fun k hk => .inl hk, Buts.refl _ _, World.ownsRow_nil _ _ _ _, BlkI.nil _ _, fun k hk => by simp [Value.ownBlock] at hk⟩)
  have B4 := Lib.hid (Buts.below B3.out buA (fun k hk => Nat.le_trans B0.out.size (O1.out k hk)) B3.out.size)
  have FA := Lib.hid (show PF own4 w4 (.pointer (some F)) L all tA from pf4)
  have RA := Lib.hid (show Mk.Runs (fz all) L all.length Mk.Fs.init oA tA from runsA)
  have BA := Lib.hid (show BlkR (fun k => w3.heap.size ≤ k ∧ ¬ own4 k) w4 aa (blks all L oA) from brA)
  have F4G := Lib.hid (show ∀ k, own4 k → k < w4.heap.size ∧ ¬ ownG k from fun k hk => ⟨pf4.lt k hk, fun hg => by
    rcases own4n k hk with q | q
    · exact ap0 k q hg
    · have := P2.out.lt k hg
      have := H6.out.size
      omega⟩)
  have WG := Lib.hid (show ∀ k, ownG k → w.heap.size ≤ k ∧ k < w3.heap.size from fun k hk => ⟨Nat.le_trans H4.out.size (O2.out k hk), Nat.lt_of_lt_of_le (P2.out.lt k hk) H6.out.size⟩)
  have S43 := Lib.hid s43
  clear g1 g2 rs0 GSS ap0 gG gF s43 kp P1 O1 H4 P2 O2 H5 B2 PFD H6 SI B3 runsA pf4 own4n brA buA sl
  go_wp2_with fail
  go_loopw [13, 14, 15] (fun r y x wr => ∃ (i p : Nat) (ra : Option Addr) (rn rc : Nat) (own : Nat → Prop) (t : Mk.Fs) (o : List (Nat × Nat)) (bv : Value) (cs : List Value), x = .int .i64 (i : Nat) ∧ y = .slice ra rn rc ∧ r = bv ∧ i ≤ np ∧ Rst w4 gS all p ra rn rc ∧ PoI w4 wr L G ownG own all p t o bv cs) (fun _ _ x _ => np - (intOf x).toNat)
  case atStart => exact ⟨0, 0, _, _, _, _, _, _, _, _, rfl, rfl, rfl, Nat.zero_le _, RS4.out, J0.out⟩
  case round =>
    clear J0 RS4
    obtain ⟨i, p, ra, rn, rc, own, t, o, bv, cs, rfl, rfl, rfl, hi, hR, hP⟩ := hrel
    by_cases hip : i < np
    · have t2 : decide ((i : Int) < (np : Int)) = true := by simp; omega
      have k9 : (i : Int) < (np : Int) := by omega
      have BWR := Lib.hid (Buts.below B4.out hP.buts (fun k hk => (WG.out k hk).1) B4.out.size)
      obtain ⟨pb, po, rfl, lpb, hpc⟩ := (HP.out.below BWR.out).cell (by rw [HNP.out]; omega)
      have pc1 := hpc i (by rw [HNP.out]; exact hip)
      obtain ⟨z, hz⟩ : ∃ z, ps.getD i 0 = z := ⟨_, rfl⟩
      rw [hz] at pc1
      have wz := HW.out z (by rw [← hz, List.getD_eq_getElem?_getD, List.getElem?_eq_getElem (by rw [HNP.out]; exact hip)]; exact List.getElem_mem _)
      have PZ := Lib.hid (fun w => show Calls Try.prog 20 #[.int .i64 z, .int .i64 200] w (fun e w' => e = .returned (.int .i64 ((z % (200 : Int)).toNat : Nat)) ∧ w = w') from pick_any z wz 200 (by omega) (by omega) w)
      obtain ⟨pq, hpq⟩ : ∃ x, (z % (200 : Int)).toNat = x := ⟨_, rfl⟩
      rw [hpq] at PZ
      obtain ⟨k, hk⟩ : ∃ x, min rn pq = x := ⟨_, rfl⟩
      have mn : min (rn : Int) (pq : Int) = (k : Int) := by omega
      have kr : k ≤ rn := by omega
      have rcb := hR.2.2.1
      have pN := hP.hp
      have hRn := hR.1
      have HN3 := HN2.out
      obtain ⟨ys, hys⟩ : ∃ l, (all.drop p).take k = l := ⟨_, rfl⟩
      have TL := Lib.hid (show ys.length = k by rw [← hys, List.length_take, List.length_drop]; omega)
      have SOT := Lib.hid (soft_list (ts := ys) (fun z hz => SS.out z (by rw [← hys] at hz; exact List.mem_of_mem_drop (List.mem_of_mem_take hz))))
      have iR := hR.2.1
      have iW : Ints wr ra (all.drop p) := iR.keep hP.buts.size (fun g' o' e' hne => by
        obtain ⟨off', e2⟩ := hR.2.2.2.2 _ e'
        simp only [Addr.mk.injEq] at e2
        obtain ⟨rfl, _, _⟩ := e2
        refine hP.buts.block _ (G4.out ?_) GG.out
        have := List.length_pos_iff.2 hne
        rw [List.length_drop] at this
        omega)
      have IT := Lib.hid (hys ▸ ints_take_any iW k)
      have PFD := Lib.hid (pfeed_any own wr (.pointer (some G)) L (all.take p) t hP.pf L1 (by omega) ra k rc ys TL.out (by rw [List.length_take]; omega) IT.out SOT.out (fun h0 g' o' e q => by obtain ⟨off', e2⟩ := hR.2.2.2.2 _ e; simp only [Addr.mk.injEq] at e2; obtain ⟨rfl, _, _⟩ := e2; exact (hP.own_o _ q).elim (fun r => GG.out r) (fun r => by have := G4.out (by omega); omega)))
      have YS := Lib.hid hys
      have HPI := Lib.hid hP
      have HRI := Lib.hid hR
      have ROF := Lib.hid (show ra = none ∨ ∃ off, ra = some ⟨gS, off, none⟩ from by
        rcases Option.eq_none_or_eq_some ra with e | ⟨a, e⟩
        · exact .inl e
        · obtain ⟨off, e2⟩ := hR.2.2.2.2 a e
          exact .inr ⟨off, by rw [e, e2]⟩)
      clear hpc hz wz hpq hk iW iR hP hR hys hRn HN3
      obtain hra | ⟨off, hra⟩ := ROF.out
      · subst hra
        obtain rfl : rc = 0 := HRI.out.2.2.2.1 rfl
        obtain rfl : rn = 0 := by omega
        obtain rfl : k = 0 := by omega
        have mn0 : min (0 : Int) (pq : Int) = 0 := by omega
        clear ROF mn
        go_wp2_with fail
        (with_reducible refine (PZ.out _).mono ?_)
        rintro e w9 ⟨rfl, rfl⟩
        go_wp2_with fail
        (with_reducible refine PFD.out.mono ?_)
        rintro e w5 ⟨own5, o5, t5, ca, cc, rfl, hcc, runs5, pf5, own5n, br5, bu5⟩
        have PF5 := Lib.hid pf5
        have RU5 := Lib.hid runs5
        have ON5 := Lib.hid own5n
        have BR5 := Lib.hid br5
        have BU5 := Lib.hid bu5
        have NO := Lib.hid (fun w' (b : Below w5.heap.size w5 w') (sa so c : Nat) (R : Ints w' (some ⟨sa, so, none⟩) [0, 8]) => pfeed_no own5 w' (.pointer (some G)) L (all.take p ++ ys) t5 (PF5.out.below b) (some ⟨sa, so, none⟩) 2 c [0, 8] rfl (by omega) R softOk_08)
        clear pf5 runs5 own5n br5 bu5 PFD
        go_wp2_with fail
        (with_reducible refine (NO.out _ (ba (Below.refl _ _) _) _ _ _ (ints_eight _ _)).mono ?_)
        rintro e w6 ⟨rfl, h6⟩
        have B6 := Lib.hid (bt (ba (Below.refl w5.heap.size w5) _) h6)
        have ROW6 := Lib.hid (HPI.out.row6 BU5.out B6.out)
        obtain ⟨cs2, c6, hn0, hcc6⟩ := (BR5.out.below B6.out).cells
        have C6 := Lib.hid c6
        have CN := Lib.hid (show ca = none → o5.length = 0 from fun e => by have := hn0 e; simpa [blks] using this)
        have CC := Lib.hid hcc6
        have CL := Lib.hid (show cs2.length = o5.length * 3 by rw [c6.1]; simp [blks])
        have S6 := Lib.hid (show w4.heap.size ≤ w6.heap.size from Nat.le_trans HPI.out.buts.size (Nat.le_trans BU5.out.size B6.out.size))
        have l1 : o.length ≤ 9960 := by
          have := apart_len HPI.out.run.apart
          have := HPI.out.le
          have := HPI.out.hp
          have := HN2.out
          omega
        have l5 : o5.length ≤ 9960 := by
          have := apart_len RU5.out.apart
          have h7 := PF5.out.place
          have h8 := TL.out
          rw [List.length_append, List.length_take] at h7
          have := HN2.out
          have := HPI.out.hp
          have := HRI.out.1
          omega
        obtain ⟨j0, hj0, hy0, hy1, hy2⟩ := info_parts info_block
        clear c6 hn0 hcc6 h6 NO
        go_wp2_with (at_builtin; refine wpList_append_own2_any rfl _ _ 40 rfl w4.heap.size 50 j0 (.agg #[.int .i64 0, .int .i64 0, .slice none 0 0]) 3 40 Try.underlying40 hj0 hy0 hy1 hy2 rfl (by decide) _ _ _ rfl ROW6.out ca o5.length cc cs2 rfl CL.out CN.out CC.out C6.out.one (by unfold maxLen; omega) (by omega) S6.out ?_; intro bv7 w7 hown7 hgrow7 hblk7; have NX := Lib.hid (fun hpk le5 => HPI.out.next hpk YS.out PF5.out RU5.out le5 ON5.out BU5.out B6.out C6.out hown7 hgrow7 hblk7); clear hown7 hgrow7 hblk7)
        exact ⟨⟨i + 1, p + 0, _, _, _, own5, t5, o ++ o5, _, cs ++ cs2, by go_num, rfl, rfl, by omega, HRI.out, NX.out (by have := HPI.out.hp; omega) PF5.out.place⟩, by simp [intOf]; omega⟩
      · subst hra
        clear ROF
        go_wp2_with fail
        (with_reducible refine (PZ.out _).mono ?_)
        rintro e w9 ⟨rfl, rfl⟩
        go_wp2_with fail
        (with_reducible refine PFD.out.mono ?_)
        rintro e w5 ⟨own5, o5, t5, ca, cc, rfl, hcc, runs5, pf5, own5n, br5, bu5⟩
        have PF5 := Lib.hid pf5
        have RU5 := Lib.hid runs5
        have ON5 := Lib.hid own5n
        have BR5 := Lib.hid br5
        have BU5 := Lib.hid bu5
        have NO := Lib.hid (fun w' (b : Below w5.heap.size w5 w') (sa so c : Nat) (R : Ints w' (some ⟨sa, so, none⟩) [0, 8]) => pfeed_no own5 w' (.pointer (some G)) L (all.take p ++ ys) t5 (PF5.out.below b) (some ⟨sa, so, none⟩) 2 c [0, 8] rfl (by omega) R softOk_08)
        clear pf5 runs5 own5n br5 bu5 PFD
        go_wp2_with fail
        (with_reducible refine (NO.out _ (ba (Below.refl _ _) _) _ _ _ (ints_eight _ _)).mono ?_)
        rintro e w6 ⟨rfl, h6⟩
        have B6 := Lib.hid (bt (ba (Below.refl w5.heap.size w5) _) h6)
        have ROW6 := Lib.hid (HPI.out.row6 BU5.out B6.out)
        obtain ⟨cs2, c6, hn0, hcc6⟩ := (BR5.out.below B6.out).cells
        have C6 := Lib.hid c6
        have CN := Lib.hid (show ca = none → o5.length = 0 from fun e => by have := hn0 e; simpa [blks] using this)
        have CC := Lib.hid hcc6
        have CL := Lib.hid (show cs2.length = o5.length * 3 by rw [c6.1]; simp [blks])
        have S6 := Lib.hid (show w4.heap.size ≤ w6.heap.size from Nat.le_trans HPI.out.buts.size (Nat.le_trans BU5.out.size B6.out.size))
        have l1 : o.length ≤ 9960 := by
          have := apart_len HPI.out.run.apart
          have := HPI.out.le
          have := HPI.out.hp
          have := HN2.out
          omega
        have l5 : o5.length ≤ 9960 := by
          have := apart_len RU5.out.apart
          have h7 := PF5.out.place
          have h8 := TL.out
          rw [List.length_append, List.length_take] at h7
          have := HN2.out
          have := HPI.out.hp
          have := HRI.out.1
          omega
        obtain ⟨j0, hj0, hy0, hy1, hy2⟩ := info_parts info_block
        clear c6 hn0 hcc6 h6 NO
        go_wp2_with (at_builtin; refine wpList_append_own2_any rfl _ _ 40 rfl w4.heap.size 50 j0 (.agg #[.int .i64 0, .int .i64 0, .slice none 0 0]) 3 40 Try.underlying40 hj0 hy0 hy1 hy2 rfl (by decide) _ _ _ rfl ROW6.out ca o5.length cc cs2 rfl CL.out CN.out CC.out C6.out.one (by unfold maxLen; omega) (by omega) S6.out ?_; intro bv7 w7 hown7 hgrow7 hblk7; have NX := Lib.hid (fun hpk le5 => HPI.out.next hpk YS.out PF5.out RU5.out le5 ON5.out BU5.out B6.out C6.out hown7 hgrow7 hblk7); clear hown7 hgrow7 hblk7)
        have hpk : p + k ≤ all.length := by
          have := HRI.out.1
          have := HPI.out.hp
          omega
        have hrs : Rst w4 gS all (p + k) (if rc = k then some ⟨gS, off, none⟩ else some ⟨gS, off + k, none⟩) (rn - k) (rc - k) := by
          obtain ⟨q1, q2, q3, q4, q5⟩ := HRI.out
          refine ⟨by omega, ?_, by omega, (fun e => by split at e <;> cases e), fun a e => by split at e <;> (cases e; exact ⟨_, rfl⟩)⟩
          rw [← List.drop_drop]
          by_cases h : rc = k
          · refine .inl (List.eq_nil_of_length_eq_zero ?_)
            rw [List.length_drop, List.length_drop]
            omega
          · rw [if_neg h]
            exact ints_drop q2 k
        exact ⟨⟨i + 1, p + k, _, _, _, own5, t5, o ++ o5, _, cs ++ cs2, by go_num, rfl, rfl, by omega, hrs, NX.out hpk PF5.out.place⟩, by simp [intOf]; omega⟩
    · have t2 : decide ((i : Int) < (np : Int)) = false := by simp; omega
      obtain ⟨ys, hys⟩ : ∃ l, all.drop p = l := ⟨_, rfl⟩
      have pN := hP.hp
      have HN3 := HN2.out
      have hRn := hR.1
      have rcb := hR.2.2.1
      have TL := Lib.hid (show ys.length = rn by rw [← hys, List.length_drop]; omega)
      have SOT := Lib.hid (soft_list (ts := ys) (fun z hz => SS.out z (by rw [← hys] at hz; exact List.mem_of_mem_drop hz)))
      have iW : Ints wr ra (all.drop p) := hR.2.1.keep hP.buts.size (fun g' o' e' hne => by
        obtain ⟨off', e2⟩ := hR.2.2.2.2 _ e'
        simp only [Addr.mk.injEq] at e2
        obtain ⟨rfl, _, _⟩ := e2
        refine hP.buts.block _ (G4.out ?_) GG.out
        have := List.length_pos_iff.2 hne
        rw [List.length_drop] at this
        omega)
      have PFD := Lib.hid (pfeed_any own wr (.pointer (some G)) L (all.take p) t hP.pf L1 (by omega) ra rn rc ys TL.out (by rw [List.length_take]; omega) (hys ▸ iW) SOT.out (fun h0 g' o' e q => by obtain ⟨off', e2⟩ := hR.2.2.2.2 _ e; simp only [Addr.mk.injEq] at e2; obtain ⟨rfl, _, _⟩ := e2; exact (hP.own_o _ q).elim (fun r => GG.out r) (fun r => by have := G4.out (by omega); omega)))
      have YS := Lib.hid (show (all.drop p).take rn = ys by rw [← hys, List.take_of_length_le (by rw [List.length_drop]; omega)])
      have HPI := Lib.hid hP
      have HRI := Lib.hid hR
      clear hP hR hys hRn HN3 iW
      go_wp2_with fail
      (with_reducible refine PFD.out.mono ?_)
      rintro e w5 ⟨own5, o5, t5, ca, cc, rfl, hcc, runs5, pf5, own5n, br5, bu5⟩
      have PF5 := Lib.hid pf5
      have RU5 := Lib.hid runs5
      have ON5 := Lib.hid own5n
      have BR5 := Lib.hid br5
      have BU5 := Lib.hid bu5
      clear pf5 runs5 own5n br5 bu5 PFD
      have B6 := Lib.hid (Below.refl w5.heap.size w5)
      have ROW6 := Lib.hid (HPI.out.row6 BU5.out B6.out)
      obtain ⟨cs2, c6, hn0, hcc6⟩ := BR5.out.cells
      have C6 := Lib.hid c6
      have CN := Lib.hid (show ca = none → o5.length = 0 from fun e => by have := hn0 e; simpa [blks] using this)
      have CC := Lib.hid hcc6
      have CL := Lib.hid (show cs2.length = o5.length * 3 by rw [c6.1]; simp [blks])
      have S6 := Lib.hid (show w4.heap.size ≤ w5.heap.size from Nat.le_trans HPI.out.buts.size BU5.out.size)
      have l1 : o.length ≤ 9960 := by
        have := apart_len HPI.out.run.apart
        have := HPI.out.le
        have := HPI.out.hp
        have := HN2.out
        omega
      have l5 : o5.length ≤ 9960 := by
        have := apart_len RU5.out.apart
        have h7 := PF5.out.place
        have h8 := TL.out
        rw [List.length_append, List.length_take] at h7
        have := HN2.out
        have := HPI.out.hp
        have := HRI.out.1
        omega
      obtain ⟨j0, hj0, hy0, hy1, hy2⟩ := info_parts info_block
      clear c6 hn0 hcc6
      go_wp2_with (at_builtin; refine wpList_append_own2_any rfl _ _ 40 rfl w4.heap.size 50 j0 (.agg #[.int .i64 0, .int .i64 0, .slice none 0 0]) 3 40 Try.underlying40 hj0 hy0 hy1 hy2 rfl (by decide) _ _ _ rfl ROW6.out ca o5.length cc cs2 rfl CL.out CN.out CC.out C6.out.one (by unfold maxLen; omega) (by omega) S6.out ?_; intro bv7 w7 hown7 hgrow7 hblk7; have NX := Lib.hid (fun hpk le5 => HPI.out.next hpk YS.out PF5.out RU5.out le5 ON5.out BU5.out B6.out C6.out hown7 hgrow7 hblk7); clear hown7 hgrow7 hblk7)
      have q7 := NX.out (by have := HRI.out.1; have := HPI.out.hp; omega) PF5.out.place
      have all_p : all.take (p + rn) = all := List.take_of_length_le (by have := HRI.out.1; have := HPI.out.hp; omega)
      have pr : p + rn = all.length := by have := HRI.out.1; have := HPI.out.hp; omega
      have run7 := q7.run
      rw [all_p, pr] at run7
      obtain ⟨eo, rfl⟩ := Mk.Runs.unique RA.out run7
      have cel7 := q7.cells
      rw [all_p] at cel7
      have row7 := q7.row
      have bl : ∀ o : List (Nat × Nat), (blks all L o).length = o.length := fun o => by simp [blks]
      rw [← eo] at row7 cel7
      rw [← bl oA] at row7
      obtain ⟨ba, bc, rfl, br7⟩ := cel7.reads row7
      rw [bl oA]
      rw [bl oA] at br7
      have ba7 := BA.out.keep q7.buts.size (fun g hg hq => q7.buts.block g hg (fun ho => by
        have := (WG.out g ho).2
        have := hq.1
        omega))
      have pf7 := FA.out.keep q7.buts.size (fun k hk ho => q7.buts.block k hk (F4G.out k ho).2)
      have lA : oA.length ≤ 9960 := by
        have := apart_len RA.out.apart
        have := FA.out.place
        have := HN2.out
        omega
      have SM := Lib.hid (same_any _ _ aa ba ac bc (blks all L oA) oA.length (bl oA) (by omega) (fun x hx => Nat.le_trans (blks_short _ _ _ x hx) (by omega)) w7 ba7 br7)
      have AT := Lib.hid (fun nq => pat_any own4 (w7.drewN nq) (.pointer (some F)) L all tA (pf7.keep (Nat.le_refl _) (fun _ _ _ => rfl)) N HN2.out (by omega))
      have n1 : ((N : Int) != (N : Int)) = false := by simp
      have B7 := Lib.hid (Buts.below B4.out q7.buts (fun k hk => (WG.out k hk).1) B4.out.size)
      have I7 := Lib.hid (show Ints w7 sa all from SI4.out.keep q7.buts.size (fun g' o' e' hne => by
        obtain ⟨off', e2⟩ := RS5.out _ e'
        simp only [Addr.mk.injEq] at e2
        obtain ⟨rfl, _, _⟩ := e2
        refine q7.buts.block _ (G4.out ?_) GG.out
        have := List.length_pos_iff.2 hne
        have := HN2.out
        omega))
      have A7 := Lib.hid ba7
      have ZN := Lib.hid (show tA.place ≤ N by have := FA.out.place; have := HN2.out; omega)
      have AP := Lib.hid (show Mk.Apart L 0 oA tA.place from RA.out.apart)
      clear q7 all_p pr run7 eo cel7 row7 br7 ba7 pf7 NX RU5 PF5 ON5 BR5 BU5 C6 CC CL CN ROW6 YS HPI HRI SOT TL B6 S6 HN HR
      (with_reducible refine SM.out.mono ?_)
      rintro e w8 ⟨rfl, m8, rfl⟩
      go_wp2_with fail
      (with_reducible refine (AT.out m8).mono ?_)
      rintro e w9 ⟨rfl, m9, h9⟩
      obtain ⟨wz, hwz⟩ : ∃ x, (w7.drewN m8).drewN m9 = x := ⟨_, rfl⟩
      rw [hwz] at h9
      subst h9
      have IZ := Lib.hid (show Ints w9 sa all by rw [← hwz]; exact I7.out)
      have AZ := Lib.hid (show BlkR (fun k => w3.heap.size ≤ k ∧ ¬ own4 k) w9 aa (blks all L oA) by rw [← hwz]; exact A7.out)
      have BZ := Lib.hid (show Below w.heap.size w w9 by rw [← hwz]; exact below_drewN (below_drewN B7.out _) _)
      clear SM AT I7 A7 B7 hwz
      go_wp2_with fail
      go_loopw [22, 23] (fun y x wr => ∃ (j en m : Nat), j ≤ oA.length ∧ x = .int .i64 (j : Nat) ∧ y = .int .i64 (en : Nat) ∧ wr = w9.drewN m ∧ Mk.Apart L en (oA.drop j) tA.place) (fun _ x _ => oA.length - (intOf x).toNat)
      case atStart => exact ⟨0, 0, 0, Nat.zero_le _, rfl, rfl, rfl, by simpa using AP.out⟩
      case round =>
        obtain ⟨j, en, m, hj, rfl, rfl, hw, hap⟩ := hrel
        rename World => wr
        by_cases hlt : j < oA.length
        · obtain ⟨⟨pl, wn⟩, hx⟩ : ∃ x, oA[j]? = some x := ⟨_, List.getElem?_eq_getElem hlt⟩
          have dj : oA.drop j = (pl, wn) :: oA.drop (j + 1) := by
            rw [List.drop_eq_getElem_cons hlt]
            congr 1
            rw [List.getElem?_eq_getElem hlt] at hx
            exact Option.some.inj hx
          rw [dj] at hap
          obtain ⟨ap1, ap2⟩ := hap
          have ap3 := apart_len ap2
          simp only at ap1 ap2 ap3
          have zn := ZN.out
          have hxb : (blks all L oA)[j]? = some (pl, wn, seg all (pl + 32) L) := by
            unfold blks
            rw [List.getElem?_map, hx]
            rfl
          have sgl : (seg all (pl + 32) L).length = L := seg_len _ _ _ (by have := HN2.out; omega)
          have AZ' := AZ.out
          rcases AZ' with h0 | ⟨B1, off1, e1, hQ, hB1, hcell⟩
          · rw [h0] at hxb
            simp at hxb
          subst e1
          obtain ⟨x1, x2, sa5, sc5, x3, xi, _⟩ := hcell j _ hxb
          simp only at x1 x2 x3 xi
          rw [sgl] at x3
          replace x1 := (cellD hw ⟨B1, off1 + j * 3, none⟩).trans x1
          replace x3 := (cellD hw ⟨B1, off1 + j * 3 + 2, none⟩).trans x3
          obtain ⟨gs, os, rfl, _, _⟩ := IZ.out.cell (by have := HN2.out; omega)
          have i5 : Ints w9 (some ⟨gs, os + (pl + 32), none⟩) (seg all (pl + 32) L) := ints_take (ints_drop IZ.out (pl + 32)) L
          have k1 : (j : Int) < (oA.length : Int) := by omega
          have k2 : decide ((pl : Int) < (en : Int)) = false := by simp; omega
          obtain ⟨a1, ha1⟩ : ∃ x, pl + 32 = x := ⟨_, rfl⟩
          obtain ⟨b1, hb1⟩ : ∃ x, a1 + L = x := ⟨_, rfl⟩
          have bN : b1 ≤ N := by omega
          have bsc : b1 ≤ sc := by omega
          have ab : a1 ≤ b1 := by omega
          have abL : b1 - a1 = L := by omega
          have w1 : IntKind.i64.wrap ((pl : Int) + 32) = (a1 : Int) := by rw [IntWalk.i64_in _ (by omega)]; omega
          have w2 : IntKind.i64.wrap ((a1 : Int) + (L : Int)) = (b1 : Int) := by rw [IntWalk.i64_in _ (by omega)]; omega
          have k2n : decide (pl < en) = false := decide_eq_false (by omega)
          have k5n : decide (N < b1) = false := decide_eq_false (by omega)
          have k5 : decide ((N : Int) < (b1 : Int)) = false := by simp; omega
          have k4 : ¬ sc = a1 := by omega
          rw [ha1] at sgl xi i5
          have SQ := Lib.hid (fun nq c2 => sameIntsQ_any sa5 (some ⟨gs, os + a1, none⟩) sc5 c2 (seg all a1 L) L sgl (by omega) (wr.drewN nq) (by rw [hw]; exact xi) (by rw [hw]; exact i5))
          have HW2 := Lib.hid hw
          have AP2 := Lib.hid (show Mk.Apart L b1 (oA.drop (j + 1)) tA.place from by
            rw [← hb1, ← ha1]
            exact ap2)
          clear hw hx dj ap1 ap2 ap3 zn hxb hcell xi i5 x2 ha1 hb1 bN
          go_wp2_with fail
          go_quiet ((go_at_call 28; exact Calls.quiet_of (SQ.out _ _)))
          go_wp2_with fail
          exact ⟨⟨j + 1, b1, m + nq, by omega, by go_num, rfl, by rw [HW2.out, World.drewN_drewN], AP2.out⟩, by simp [intOf]; omega⟩
        · obtain rfl : j = oA.length := by omega
          have BE := Lib.hid (below_drewN BZ.out m)
          rw [← hw] at BE
          clear hw
          go_wp2_with fail
          (with_reducible refine (AWH.out _).mono ?_)
          rintro e wy ⟨rfl, hy⟩
          have BY := Lib.hid (bt BE.out hy)
          clear hy
          go_wp2_with fail
          go_ret
          exact ⟨rfl, BY.out⟩
end Go.Proofs.Ytlfnglinalmpjaa
