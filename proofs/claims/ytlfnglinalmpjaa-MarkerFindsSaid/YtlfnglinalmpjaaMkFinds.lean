/- MarkerFinds: the walk over the finder as the laws see it. -/
import Derived.Test.YtlfnglinalmpjaaMkProg
import Derived.Test.YtlfnglinalmpjaaVpCel
namespace Go.Proofs.Ytlfnglinalmpjaa
open Go.RowKit
set_option linter.unusedVariables false

/-- What holds between two portions. -/
structure MfI (w : World) (np len : Nat) (pv rv : Value) (ra : Option Addr) (rn rc gS i : Nat) (wr : World) (own : Nat → Prop) (b : Nat) (lv : Value) (zs ys : List Int) (t : Mk.Fs) : Prop where
  pf : PF own wr pv len zs t
  rf : RF 0 wr b len lv zs t
  rve : rv = .pointer (some ⟨b, 0, none⟩)
  ok : Mk.Ok t
  le : t.place ≤ zs.length
  hrn : ys.length = rn
  hrc : rn ≤ rc
  hra : Ints wr ra ys
  hrg : 0 < rn → ∃ off, ra = some ⟨gS, off, none⟩
  soft : ∀ z ∈ ys, -8 ≤ z ∧ z ≤ 7
  hlen : zs.length + rn ≤ 9960
  ap : ∀ k, own k → ¬ rown b lv k
  o1 : ∀ k, own k → w.heap.size ≤ k
  o2 : ∀ k, rown b lv k → w.heap.size ≤ k
  s1 : ¬ own gS ∧ ¬ rown b lv gS ∧ (0 < rn → gS < wr.heap.size)
  bel : Below w.heap.size w wr
  cnt : i ≤ np + 1 ∧ (np < i → rn = 0)
theorem RF.lt {base b len : Nat} {lv : Value} {zs : List Int} {s : Mk.Fs} {w : World} (h : RF base w b len lv zs s) : ∀ k, rown b lv k → k < w.heap.size := by
  intro k hk
  rcases hk with q | q
  · rw [q]
    exact h.obj.1
  · exact (h.row.lt k q).2
theorem ints_take {w : World} {b off : Nat} {ys : List Int} (h : Ints w (some ⟨b, off, none⟩) ys) (k : Nat) : Ints w (some ⟨b, off, none⟩) (ys.take k) := by
  rcases h with h | ⟨b', o', e, hl, hc⟩
  · exact .inl (by rw [h]; simp)
  · refine .inr ⟨b', o', e, hl, fun j hj => ?_⟩
    rw [List.length_take] at hj
    rw [hc j (by omega)]
    simp only [List.getD_eq_getElem?_getD, List.getElem?_take_of_lt (show j < k by omega)]
theorem ints_drop {w : World} {b off : Nat} {ys : List Int} (h : Ints w (some ⟨b, off, none⟩) ys) (k : Nat) : Ints w (some ⟨b, off + k, none⟩) (ys.drop k) := by
  rcases h with h | ⟨b', o', e, hl, hc⟩
  · exact .inl (by rw [h]; simp)
  · simp only [Option.some.injEq, Addr.mk.injEq] at e
    obtain ⟨rfl, rfl, _⟩ := e
    refine .inr ⟨b, off + k, rfl, hl, fun j hj => ?_⟩
    rw [List.length_drop] at hj
    rw [Nat.add_assoc, hc (k + j) (by omega)]
    simp only [List.getD_eq_getElem?_getD, List.getElem?_drop]
theorem soft_list {ts : List Int} (h : ∀ z ∈ ts, -8 ≤ z ∧ z ≤ 7) : softOk ts = true := (softOk_iff ts).2 (fun i hi => by
  have := h (ts.getD i 0) (by rw [List.getD_eq_getElem?_getD, List.getElem?_eq_getElem hi]; exact List.getElem_mem _)
  exact this)
theorem blks_short (l : List Int) (len : Nat) (o : List (Nat × Nat)) : ∀ x ∈ blks l len o, x.2.2.length ≤ len := by
  intro x hx
  unfold blks at hx
  obtain ⟨y, _, rfl⟩ := List.mem_map.1 hx
  simp only [seg, List.length_take]
  omega
theorem pf_six {wr w4 w5 w6 : World} {own own5 : Nat → Prop} {b len : Nat} {v lv : Value} {zs : List Int} {t5 : Mk.Fs} (rlt : ∀ k, rown b lv k → k < wr.heap.size) (ap : ∀ k, own k → ¬ rown b lv k) (s4 : wr.heap.size ≤ w4.heap.size)
    (pf5 : PF own5 w5 v len zs t5) (on5 : ∀ k, own5 k → own k ∨ w4.heap.size ≤ k) (bu6 : Buts (rown b lv) w5 w6) : PF own5 w6 v len zs t5 :=
  pf5.keep bu6.size (fun k hk ho => bu6.block k hk (fun hr => by
    rcases on5 k ho with q | q
    · exact ap k q hr
    · have := rlt k hr
      omega))
theorem MfI.next {w wr w4 w5 w6 w7 : World} {np len rn rc gS off i k g : Nat} {P : Addr} {own own5 : Nat → Prop} {b : Nat} {lv lv6 : Value} {zs ys ts : List Int} {t t5 : Mk.Fs} {ra : Option Addr}
    (h : MfI w np len (.pointer (some P)) (.pointer (some ⟨b, 0, none⟩)) (some ⟨gS, off, none⟩) rn rc gS i wr own b lv zs ys t) (hts : ys.take k = ts) (h0 : 0 < rn) (kr : k ≤ rn) (ke : ¬ i < np → k = rn)
    (hra : k < rc → ra = some ⟨gS, off + k, none⟩)
    (h4 : Below wr.heap.size wr w4) (hg : wr.heap.size ≤ g) (g4 : g < w4.heap.size)
    (pf5 : PF own5 w5 (.pointer (some P)) len (zs ++ ts) t5) (on5 : ∀ k, own5 k → own k ∨ w4.heap.size ≤ k) (bu5 : Buts own w4 w5)
    (rf6 : RF 0 w6 b len lv6 (zs ++ ts) t5) (on6 : ∀ k, rown b lv6 k → rown b lv k ∨ w5.heap.size ≤ k) (bu6 : Buts (rown b lv) w5 w6) (ok6 : Mk.Ok t5) (le6 : t5.place ≤ (zs ++ ts).length) (b7 : But g w6 w7) :
    MfI w np len (.pointer (some P)) (.pointer (some ⟨b, 0, none⟩)) ra (rn - k) (rc - k) gS (i + 1) w7 own5 b lv6 (zs ++ ts) (ys.drop k) t5 := by
  have rlt := h.rf.lt
  have plt := h.pf.lt
  have s4 := h4.size
  have s5 := bu5.size
  have s6 := bu6.size
  have s7 := b7.below.size
  have pf6 := pf_six rlt h.ap s4 pf5 on5 bu6
  have p5lt := pf5.lt
  have gs := h.s1.2.2 h0
  have wsz := h.bel.size
  refine ⟨pf6.keep s7 (fun k hk ho => b7.rest k hk (fun e => ?_)), rf6.keep (fun k hk hr => b7.rest k hk (fun e => ?_)), rfl, ok6, le6, by rw [List.length_drop, h.hrn], by have := h.hrc; omega, ?_, fun q => ⟨off + k, hra (by have := h.hrc; omega)⟩, fun z hz => h.soft z (List.mem_of_mem_drop hz), ?_, fun k ho hr => ?_, fun k ho => ?_, fun k hr => ?_, ⟨fun q => ?_, fun q => ?_, fun _ => by omega⟩, ?_, ?_⟩
  · subst e
    rcases on5 _ ho with q | q
    · have := plt _ q
      omega
    · omega
  · subst e
    rcases on6 _ hr with q | q
    · have := rlt _ q
      omega
    · omega
  · by_cases hk : k < rc
    · rw [hra hk]
      have i4 := (ints_drop h.hra k).below h4
      have kp : ∀ {wa wb : World}, Ints wa (some ⟨gS, off + k, none⟩) (ys.drop k) → wa.heap.size ≤ wb.heap.size → wb.heap[gS]? = wa.heap[gS]? → Ints wb (some ⟨gS, off + k, none⟩) (ys.drop k) := fun hi hs e => hi.keep hs (fun g' o' e' _ => by
        simp only [Option.some.injEq, Addr.mk.injEq] at e'
        obtain ⟨rfl, _, _⟩ := e'
        exact e)
      exact kp (kp (kp i4 s5 (bu5.block gS (by omega) h.s1.1)) s6 (bu6.block gS (by omega) h.s1.2.1)) s7 (b7.rest gS (by omega) (by omega))
    · refine .inl (List.eq_nil_of_length_eq_zero ?_)
      rw [List.length_drop, h.hrn]
      have := h.hrc
      omega
  · have := h.hlen
    have e := h.hrn
    rw [← hts, List.length_append, List.length_take]
    omega
  · rcases on5 k ho with q | q
    · rcases on6 k hr with q' | q'
      · exact h.ap k q q'
      · have := plt k q
        omega
    · rcases on6 k hr with q' | q'
      · have := rlt k q'
        omega
      · have := p5lt k ho
        omega
  · rcases on5 k ho with q | q
    · exact h.o1 k q
    · omega
  · rcases on6 k hr with q | q
    · exact h.o2 k q
    · omega
  · rcases on5 _ q with q' | q'
    · exact h.s1.1 q'
    · omega
  · rcases on6 _ q with q' | q'
    · exact h.s1.2.1 q'
    · omega
  · have b4 : Below w.heap.size w w4 := bt h.bel h4
    have b5 := Buts.below b4 bu5 h.o1 b4.size
    have b6 := Buts.below b5 bu6 h.o2 b5.size
    exact Buts.below b6 (Buts.of_but (S := fun k => k = g) b7 rfl) (fun c hc => by omega) b6.size
  · have := h.cnt
    refine ⟨?_, fun q => ?_⟩
    · by_cases e : np < i
      · have := h.cnt.2 e
        omega
      · omega
    · have := ke (by omega)
      omega
set_option maxRecDepth 100000 in
set_option maxHeartbeats 4000000 in
theorem mfinds_walk (AW : ∀ w, Calls Try.prog 9 #[] w fun e w' => e = .returned (.bool true) ∧ Below w.heap.size w w')
    (ao : Option Addr) (cap : Nat) (l : List PartV) (hl : l.length ≤ cap) (hm : cap ≤ maxLen) (len : Int) (ap : Option Addr) (pc : Nat) (ps : List Int) (hpl : ps.length ≤ pc) (hpm : pc ≤ maxLen) (hpw : ∀ n ∈ ps, (Lit.int .i64 n).wf = true) (w : World) (R : Parts w ao l) (RP : Ints w ap ps) :
    Calls Try.prog 4 #[.slice ao l.length cap, .int .i64 len, .slice ap ps.length pc] w fun e w' => e = .returned (.bool true) ∧ Below w.heap.size w w' := by
  have AWH := Lib.hid AW
  obtain ⟨n, hn⟩ : ∃ n, l.length = n := ⟨_, rfl⟩
  obtain ⟨np, hnp⟩ : ∃ n, ps.length = n := ⟨_, rfl⟩
  have GR := Lib.hid (fun w => great_any ao n cap len w)
  rw [hn] at hl ⊢
  rw [hnp] at hpl ⊢
  have HN := Lib.hid hn
  have HNP := Lib.hid hnp
  have HR := Lib.hid R
  have HP := Lib.hid RP
  have HW := Lib.hid hpw
  have B0 := Lib.hid (Below.refl w.heap.size w)
  unfold maxLen at hm hpm
  clear R RP hn hnp hpw AW
  by_cases h1 : 30 < n ∨ 300 < len
  · rw [decide_eq_true h1] at GR
    clear h1
    go_enter Try.func4, Try.ntmps4
    go_wp2_with fail
    (with_reducible refine (GR.out _).mono ?_)
    rintro e w1 ⟨rfl, rfl⟩
    go_wp2_with fail
    (with_reducible refine (AWH.out _).mono ?_)
    rintro e w1 ⟨rfl, h1⟩
    go_wp2_with fail
    go_ret
    exact ⟨rfl, h1⟩
  rw [decide_eq_false h1] at GR
  by_cases h2 : 100 < np
  · have d2 : decide ((100 : Int) < (np : Int)) = true := by simp; omega
    clear h1
    go_enter Try.func4, Try.ntmps4
    go_wp2_with fail
    (with_reducible refine (GR.out _).mono ?_)
    rintro e w1 ⟨rfl, rfl⟩
    go_wp2_with fail
    (with_reducible refine (AWH.out _).mono ?_)
    rintro e w1 ⟨rfl, h1⟩
    go_wp2_with fail
    go_ret
    exact ⟨rfl, h1⟩
  have d2 : decide ((100 : Int) < (np : Int)) = false := by simp; omega
  by_cases h3 : len < 1
  · have PN := Lib.hid (fun w => pnew_no len (.inl h3) w)
    have RN := Lib.hid (fun w => rnew_no len (.inl h3) w)
    clear h1
    go_enter Try.func4, Try.ntmps4
    go_wp2_with fail
    (with_reducible refine (GR.out _).mono ?_)
    rintro e w1 ⟨rfl, rfl⟩
    go_wp2_with fail
    (with_reducible refine (PN.out _).mono ?_)
    rintro e w1 ⟨rfl, h4⟩
    have H4 := Lib.hid h4
    clear h4
    go_wp2_with fail
    (with_reducible refine (RN.out _).mono ?_)
    rintro e w2 ⟨rfl, rfl⟩
    go_wp2_with fail
    (with_reducible refine (AWH.out _).mono ?_)
    rintro e w2 ⟨rfl, h5⟩
    have H5 := Lib.hid (bt H4.out h5)
    clear h5
    go_wp2_with fail
    go_ret
    exact ⟨rfl, H5.out⟩
  obtain ⟨L, rfl⟩ : ∃ L : Nat, len = (L : Int) := ⟨len.toNat, by omega⟩
  have L1 : 1 ≤ L := by omega
  have L3 : L ≤ 300 := by omega
  have n30 : n ≤ 30 := by omega
  have PN := Lib.hid (fun w => pnew_any L L1 (by omega) w)
  have RN := Lib.hid (fun w => rnew_any (L : Int) (by omega) (by omega) w)
  have SR := Lib.hid (fun w' (q : Below w.heap.size w w') => stream_any ao cap l n HN.out n30 L L3 w' (HR.out.below q))
  clear h1 h3
  go_enter Try.func4, Try.ntmps4
  go_wp2_with fail
  (with_reducible refine (GR.out _).mono ?_)
  rintro e w1 ⟨rfl, rfl⟩
  go_wp2_with fail
  (with_reducible refine (PN.out _).mono ?_)
  rintro e w1 ⟨own, P, rfl, p1, o1, h4⟩
  have P1 := Lib.hid p1
  have O1 := Lib.hid o1
  have H4 := Lib.hid h4
  clear p1 o1 h4 PN GR
  go_wp2_with fail
  (with_reducible refine (RN.out _).mono ?_)
  rintro e w2 ⟨b, rfl, hb, fo, h5⟩
  have FO2 := Lib.hid fo
  have HB2 := Lib.hid hb
  have H5 := Lib.hid h5
  have B2 := Lib.hid (bt H4.out h5)
  clear fo hb h5 RN
  go_wp2_with fail
  (with_reducible refine (SR.out _ B2.out).mono ?_)
  rintro e w3 ⟨sv, all, rfl, so, ss, sl, h6⟩
  obtain ⟨sa, sc, rfl⟩ := own_is so
  have B3 := Lib.hid (bt B2.out h6)
  obtain ⟨si, _, scl⟩ := ints_of_own so
  have I0 := Lib.hid (show ∃ gS, MfI w np L (.pointer (some P)) (.pointer (some ⟨b, 0, none⟩)) sa all.length sc gS 0 w3 own b (.slice none 0 0) [] all Mk.Fs.init from by
    have pf := (P1.out.below H5.out).below h6
    have bl : ∀ k, rown b (.slice none 0 0) k → k = b := fun k hk => by
      rcases hk with hk | hk
      · exact hk
      · cases hk
    have gs : ∃ gS, (0 < all.length → ∃ off, sa = some ⟨gS, off, none⟩) ∧ w2.heap.size ≤ gS ∧ (0 < all.length → gS < w3.heap.size) := by
      rcases so.2 with ⟨hv, h0⟩ | ⟨g, c, cur, hv, hg, hh, _⟩
      · exact ⟨w2.heap.size, fun h => by omega, Nat.le_refl _, fun h => by omega⟩
      · simp only [Value.slice.injEq] at hv
        exact ⟨g, fun _ => ⟨0, hv.1⟩, hg, fun _ => (Array.getElem?_eq_some_iff.1 hh).1⟩
    obtain ⟨gS, g1, g2, g3⟩ := gs
    have plt := P1.out.lt
    have w12 := H5.out.size
    refine ⟨gS, pf, ⟨FO2.out.below h6, World.ownsRow_nil _ _ _ _, by simp [Value.ownBlock]⟩, rfl, Mk.ok_init, Nat.le_refl _, rfl, scl, si, g1, ss, by simp only [List.length_nil]; omega, fun k hk q => ?_, O1.out, fun k hk => ?_, ⟨fun q => ?_, fun q => ?_, g3⟩, B3.out, Nat.zero_le _, fun h => by omega⟩
    · have e := bl k q
      have := plt k hk
      have := HB2.out
      omega
    · have e := bl k hk
      have := HB2.out
      have := H4.out.size
      omega
    · have := plt gS q
      omega
    · have e := bl gS q
      have := FO2.out.1
      omega)
  clear so ss sl si scl h6 SR
  obtain ⟨gS, hI0⟩ := I0.out
  have J0 := Lib.hid hI0
  clear hI0 I0
  go_wp2_with fail
  go_loopw [11, 12] (fun r x wr => ∃ (i : Nat) (ra : Option Addr) (rn rc : Nat) (own : Nat → Prop) (lv : Value) (zs ys : List Int) (t : Mk.Fs), x = .int .i64 (i : Nat) ∧ r = .slice ra rn rc ∧ MfI w np L (.pointer (some P)) (.pointer (some ⟨b, 0, none⟩)) ra rn rc gS i wr own b lv zs ys t) (fun _ x _ => np + 2 - (intOf x).toNat)
  case atStart => exact ⟨0, _, _, _, _, _, _, _, _, rfl, rfl, J0.out⟩
  case round =>
    clear J0 P1 O1 H4 FO2 HB2 H5 B2 B3
    clear own
    obtain ⟨i, ra, rn, rc, own, lv, zs, ys, t, rfl, rfl, hI⟩ := hrel
    rename World => wr
    by_cases hrn0 : 0 < rn
    · have t1 : decide ((0 : Int) < (rn : Int)) = true := by simp; omega
      obtain ⟨off, rfl⟩ := hI.hrg hrn0
      have icnt := hI.cnt
      have rcb := hI.hrc
      have lenb := hI.hlen
      by_cases hip : i < np
      · have t2 : decide ((i : Int) < (np : Int)) = true := by simp; omega
        obtain ⟨pb, po, rfl, lpb, hpc⟩ := (HP.out.below hI.bel).cell (by rw [HNP.out]; omega)
        have pc1 := hpc i (by rw [HNP.out]; exact hip)
        obtain ⟨z, hz⟩ : ∃ z, ps.getD i 0 = z := ⟨_, rfl⟩
        rw [hz] at pc1
        have wz := HW.out z (by rw [← hz, List.getD_eq_getElem?_getD, List.getElem?_eq_getElem (by rw [HNP.out]; exact hip)]; exact List.getElem_mem _)
        have PZ := Lib.hid (fun w => show Calls Try.prog 20 #[.int .i64 z, .int .i64 200] w (fun e w' => e = .returned (.int .i64 ((z % (200 : Int)).toNat : Nat)) ∧ w = w') from pick_any z wz 200 (by omega) (by omega) w)
        obtain ⟨p, hp⟩ : ∃ x, (z % (200 : Int)).toNat = x := ⟨_, rfl⟩
        rw [hp] at PZ
        obtain ⟨k, hk⟩ : ∃ x, min rn p = x := ⟨_, rfl⟩
        have mn : min (rn : Int) (p : Int) = (k : Int) := by omega
        have kr : k ≤ rn := by omega
        have KE := Lib.hid (show ¬ i < np → k = rn from fun h => absurd hip h)
        have k9 : (i : Int) < (np : Int) := by omega
        clear hpc hz wz hp hk
        go_wp2_with fail
        (with_reducible refine (PZ.out _).mono ?_)
        rintro e w9 ⟨rfl, rfl⟩
        obtain ⟨ts, hts⟩ : ∃ l, ys.take k = l := ⟨_, rfl⟩
        have tl : ts.length = k := by rw [← hts, List.length_take, hI.hrn]; omega
        have NT := Lib.hid hts
        have sT : ∀ z ∈ ts, -8 ≤ z ∧ z ≤ 7 := fun z hz => hI.soft z (by rw [← hts] at hz; exact List.mem_of_mem_take hz)
        have SOT := Lib.hid (soft_list sT)
        have TL := Lib.hid tl
        have i0' := ints_take hI.hra k
        rw [hts] at i0'
        have LW := Lib.hid (lendW_some ⟨gS, off, none⟩ rc ts k tl (by omega) (by omega) wr i0')
        have HI := Lib.hid hI
        have IT := Lib.hid i0'
        clear hI hts tl sT i0'
        go_wp2_with fail
        (with_reducible refine LW.out.mono ?_)
        rintro e w4 ⟨g, rfl, hg, lent, fz4, h4⟩
        have HG := Lib.hid hg
        have LE4 := Lib.hid lent
        have FZ4 := Lib.hid fz4
        have H4' := Lib.hid h4
        have rf4 := HI.out.rf.keep (fun k hk _ => h4.block k hk)
        have RF4 := Lib.hid rf4
        have IT4 := Lib.hid (IT.out.below h4)
        have ZL := Lib.hid HI.out.hlen
        have PFD := Lib.hid (pfeed_any own w4 (.pointer (some P)) L zs t (HI.out.pf.below h4) L1 (by omega) (some ⟨g, 0, none⟩) k (k + 1) ts TL.out (by have := HI.out.hlen; omega) lent.reads SOT.out (fun _ g' o' e q => by simp only [Option.some.injEq, Addr.mk.injEq] at e; obtain ⟨rfl, _, _⟩ := e; have := HI.out.pf.lt _ q; omega))
        clear lent fz4 h4 hg LW rf4
        go_wp2_with fail
        (with_reducible refine PFD.out.mono ?_)
        rintro e w5 ⟨own5, o, t5, oa, oc, rfl, hoc, runs5, pf5, own5n, br5, bu5⟩
        have PF5 := Lib.hid pf5
        have RU5 := Lib.hid runs5
        have ON5 := Lib.hid own5n
        have BR5 := Lib.hid br5
        have BU5 := Lib.hid bu5
        have rlt := HI.out.rf.lt
        have plt := HI.out.pf.lt
        have rf5 := RF4.out.keep (fun k hk hr => bu5.block k hk (fun ho => HI.out.ap k ho hr))
        have it5 := IT4.out.keep bu5.size (fun g' o' e' _ => by
          simp only [Option.some.injEq, Addr.mk.injEq] at e'
          obtain ⟨rfl, _, _⟩ := e'
          exact bu5.block _ (Nat.lt_of_lt_of_le (HI.out.s1.2.2 hrn0) H4'.out.size) HI.out.s1.1)
        have RFD := Lib.hid (rfeed_any 0 b L L1 (by omega) lv zs zs.length rfl t HI.out.ok HI.out.le (some ⟨gS, off, none⟩) k rc ts TL.out (by have := HI.out.hlen; omega) w5 rf5 (Nat.zero_le _) it5 SOT.out)
        have BW5 := Lib.hid rf5.obj.1
        have RLT := Lib.hid rlt
        have PLT := Lib.hid plt
        clear pf5 runs5 own5n br5 bu5 rlt plt rf5 PFD
        go_wp2_with fail
        (with_reducible refine RFD.out.mono ?_)
        intro e w6 q6
        obtain ⟨lv6, o6, t6, ra6, rc6, rfl, hoc6, runs6, ok6, le6, rf6, own6n, br6, bu6⟩ := rfeed_law BW5.out q6
        obtain ⟨rfl, rfl⟩ := Mk.Runs.unique RU5.out runs6
        have pf6 := pf_six RLT.out HI.out.ap H4'.out.size PF5.out ON5.out bu6
        have lt4 := LE4.out.1
        have gne6 : ∀ {q : Nat}, q = g → ¬ rown b lv q := fun e hr => by
          have := RLT.out _ hr
          have := HG.out
          omega
        have gne5 : ∀ {q : Nat}, q = g → ¬ own q := fun e hr => by
          have := PLT.out _ hr
          have := HG.out
          omega
        have g6 : w6.heap[g]? = w4.heap[g]? := (bu6.block g (Nat.lt_of_lt_of_le lt4 BU5.out.size) (gne6 rfl)).trans (BU5.out.block g lt4 (gne5 rfl))
        have len6 : Lent w6 g ts := ⟨Nat.lt_of_lt_of_le lt4 (Nat.le_trans BU5.out.size bu6.size), fun j hj => (World.cell?_of_block (w := w4) (a := ⟨g, j, none⟩) g6).trans (LE4.out.2 j hj)⟩
        have fz6 : ∀ j, w6.frozen? ⟨g, j, none⟩ = false := fun j => (World.frozen?_of_block (w := w4) (a := ⟨g, j, none⟩) g6).trans (FZ4.out j)
        have br5' := BR5.out.keep bu6.size (fun q hq hP => bu6.block q hq (fun hr => by
          have := RLT.out q hr
          have := H4'.out.size
          have := hP.1
          omega))
        have is6 : Ints w6 (some ⟨gS, off, none⟩) ts := Ints.keep it5 bu6.size (fun g' o' e' _ => by
          simp only [Option.some.injEq, Addr.mk.injEq] at e'
          obtain ⟨rfl, _, _⟩ := e'
          exact bu6.block _ (Nat.lt_of_lt_of_le (HI.out.s1.2.2 hrn0) (Nat.le_trans H4'.out.size BU5.out.size)) HI.out.s1.2.1)
        obtain ⟨m, hm⟩ : ∃ m, (zs ++ ts).length = m := ⟨_, rfl⟩
        have m9 : m ≤ 9960 := by
          have := TL.out
          rw [← hm, List.length_append]
          omega
        have ol : o.length ≤ 9960 := by
          have := apart_len RU5.out.apart
          omega
        obtain ⟨nb, hnb⟩ : ∃ x, o.length = x := ⟨_, rfl⟩
        have bl : (blks (zs ++ ts) L o).length = nb := by unfold blks; simp [hnb]
        rw [hnb] at ol hoc6
        have SM := Lib.hid (fun nq => same_any _ _ oa ra6 oc rc6 (blks (zs ++ ts) L o) nb bl (by omega) (fun x hx => Nat.le_trans (blks_short _ _ _ x hx) (by omega)) (w6.drewN nq) br5' br6)
        have KP := Lib.hid (fun nq => keptQ_any g ⟨gS, off, none⟩ rc ts k TL.out (by have := HI.out.hlen; omega) (w6.drewN nq) len6 is6)
        have LK := Lib.hid (fun nq => plocked_any own5 (w6.drewN nq) (.pointer (some P)) L (zs ++ ts) t5 (pf6.keep (Nat.le_refl _) (fun _ _ _ => rfl)))
        have AT := Lib.hid (fun nq => pat_any own5 (w6.drewN nq) (.pointer (some P)) L (zs ++ ts) t5 (pf6.keep (Nat.le_refl _) (fun _ _ _ => rfl)) m hm (by omega))
        have c2 : w6.cell? ⟨b, 2, none⟩ = some (.bool t5.locked) := by have := rf6.obj.cell (j := 2) (by omega); exact this
        have c1 : w6.cell? ⟨b, 1, none⟩ = some lv6 := by have := rf6.obj.cell (j := 1) (by omega); exact this
        obtain ⟨la, lc, hlv⟩ := own_is rf6.row
        rw [hm] at hlv
        rw [hlv] at c1
        obtain ⟨lk, hlk⟩ : ∃ x, t5.locked = x := ⟨_, rfl⟩
        rw [hlk] at c2
        rw [hlk] at LK
        have n1 : ((m : Int) != (m : Int)) = false := by simp
        have n2 : (lk != lk) = false := by simp
        have CEL6 := Lib.hid (show Cel w6 g k (fun j => .int .i64 ((ts ++ [-77177]).getD j 0)) from ⟨len6.1, fun j hj => ⟨len6.2 j (by rw [TL.out]; omega), fz6 j⟩⟩)
        have NX := Lib.hid (fun (w7 : World) (ra : Option Addr) (hra : k < rc → ra = some ⟨gS, off + k, none⟩) (b7 : But g w6 w7) => MfI.next HI.out NT.out hrn0 kr KE.out hra H4'.out HG.out lt4 PF5.out ON5.out BU5.out rf6 own6n bu6 ok6 le6 b7)
        clear pf6 gne6 gne5 g6 len6 fz6 br5' is6 hm bl hlk own6n bu6 br6 ok6 le6 rf6 runs6 q6 it5 hlv BR5 BU5 HI RU5 PF5 ON5 LE4 FZ4 IT IT4 RF4 RFD H4' HG NT SOT TL ZL BW5 RLT PLT
        go_wp2_with fail
        go_quiet (first
          | (go_at_call 24; exact Calls.quiet_of (SM.out _))
          | (go_at_call 25; exact Calls.quiet_of (KP.out _))
          | (go_at_call 26; exact Calls.quiet_of (LK.out _))
          | (go_at_call 27; exact Calls.quiet_of (AT.out _)))
        clear SM KP LK AT
        obtain ⟨w7, hw7⟩ : ∃ x, w6.drewN nq = x := ⟨_, rfl⟩
        have B67 := Lib.hid (show But g w6 w7 from by
          rw [← hw7]
          exact But.of_below (below_drewN (Below.refl _ _) nq) (Nat.le_of_lt CEL6.out.lt))
        have CEL7 := Lib.hid (show Cel w7 g k (fun j => .int .i64 ((ts ++ [-77177]).getD j 0)) from by
          rw [← hw7]
          exact CEL6.out)
        rw [hw7]
        clear hw7 CEL6 c1 c2
        go_wp2_with fail
        go_loopw [19] (fun x wr => ∃ (j : Nat) (f : Nat → Value), j ≤ k ∧ x = .int .i64 (j : Nat) ∧ Cel wr g k f ∧ But g w6 wr) (fun x _ => k - (intOf x).toNat)
        case atStart => exact ⟨0, _, Nat.zero_le _, rfl, CEL7.out, B67.out⟩
        case round =>
          obtain ⟨j, f, hj, rfl, hF, hB⟩ := hrel
          by_cases hlt : j < k
          · have j1 : (j : Int) < (k : Int) := by omega
            have j0 : (0 : Int) ≤ (j : Int) := by omega
            have f0 := hF.cell hlt
            have f1 := hF.frozen hlt
            have HF := Lib.hid hF
            have HBB := Lib.hid hB
            clear hF hB
            go_wp2_with fail
            go_roundw
            case rel => exact ⟨j + 1, _, by omega, by go_num, HF.out.set _ _, HBB.out.setCell _ _⟩
            case measure => simp [intOf]; omega
          · obtain rfl : k = j := by omega
            have HBB := Lib.hid hB
            clear hF hB B67 CEL7
            go_wp2_with fail
            have MF := NX.out _ (if rc = k then some ⟨gS, off, none⟩ else some ⟨gS, off + k, none⟩) (fun h => by rw [if_neg (by omega)]) HBB.out
            exact ⟨⟨i + 1, _, _, _, _, _, _, _, _, by go_num, rfl, MF⟩, by simp [intOf]; omega⟩
      · have t2 : decide ((i : Int) < (np : Int)) = false := by simp; omega
        have kr : rn ≤ rn := Nat.le_refl _
        go_wp2_with fail
        obtain ⟨ts, hts⟩ : ∃ l, ys.take rn = l := ⟨_, rfl⟩
        have tl : ts.length = rn := by rw [← hts, List.length_take, hI.hrn]; omega
        have NT := Lib.hid hts
        have sT : ∀ z ∈ ts, -8 ≤ z ∧ z ≤ 7 := fun z hz => hI.soft z (by rw [← hts] at hz; exact List.mem_of_mem_take hz)
        have SOT := Lib.hid (soft_list sT)
        have TL := Lib.hid tl
        have i0' := ints_take hI.hra rn
        rw [hts] at i0'
        have LW := Lib.hid (lendW_some ⟨gS, off, none⟩ rc ts rn tl (by omega) (by omega) wr i0')
        have HI := Lib.hid hI
        have IT := Lib.hid i0'
        clear hI hts tl sT i0'
        go_wp2_with fail
        (with_reducible refine LW.out.mono ?_)
        rintro e w4 ⟨g, rfl, hg, lent, fz4, h4⟩
        have HG := Lib.hid hg
        have LE4 := Lib.hid lent
        have FZ4 := Lib.hid fz4
        have H4' := Lib.hid h4
        have rf4 := HI.out.rf.keep (fun rn hk _ => h4.block rn hk)
        have RF4 := Lib.hid rf4
        have IT4 := Lib.hid (IT.out.below h4)
        have ZL := Lib.hid HI.out.hlen
        have PFD := Lib.hid (pfeed_any own w4 (.pointer (some P)) L zs t (HI.out.pf.below h4) L1 (by omega) (some ⟨g, 0, none⟩) rn (rn + 1) ts TL.out (by have := HI.out.hlen; omega) lent.reads SOT.out (fun _ g' o' e q => by simp only [Option.some.injEq, Addr.mk.injEq] at e; obtain ⟨rfl, _, _⟩ := e; have := HI.out.pf.lt _ q; omega))
        clear lent fz4 h4 hg LW rf4
        go_wp2_with fail
        (with_reducible refine PFD.out.mono ?_)
        rintro e w5 ⟨own5, o, t5, oa, oc, rfl, hoc, runs5, pf5, own5n, br5, bu5⟩
        have PF5 := Lib.hid pf5
        have RU5 := Lib.hid runs5
        have ON5 := Lib.hid own5n
        have BR5 := Lib.hid br5
        have BU5 := Lib.hid bu5
        have rlt := HI.out.rf.lt
        have plt := HI.out.pf.lt
        have rf5 := RF4.out.keep (fun rn hk hr => bu5.block rn hk (fun ho => HI.out.ap rn ho hr))
        have it5 := IT4.out.keep bu5.size (fun g' o' e' _ => by
          simp only [Option.some.injEq, Addr.mk.injEq] at e'
          obtain ⟨rfl, _, _⟩ := e'
          exact bu5.block _ (Nat.lt_of_lt_of_le (HI.out.s1.2.2 hrn0) H4'.out.size) HI.out.s1.1)
        have RFD := Lib.hid (rfeed_any 0 b L L1 (by omega) lv zs zs.length rfl t HI.out.ok HI.out.le (some ⟨gS, off, none⟩) rn rc ts TL.out (by have := HI.out.hlen; omega) w5 rf5 (Nat.zero_le _) it5 SOT.out)
        have BW5 := Lib.hid rf5.obj.1
        have RLT := Lib.hid rlt
        have PLT := Lib.hid plt
        clear pf5 runs5 own5n br5 bu5 rlt plt rf5 PFD
        go_wp2_with fail
        (with_reducible refine RFD.out.mono ?_)
        intro e w6 q6
        obtain ⟨lv6, o6, t6, ra6, rc6, rfl, hoc6, runs6, ok6, le6, rf6, own6n, br6, bu6⟩ := rfeed_law BW5.out q6
        obtain ⟨rfl, rfl⟩ := Mk.Runs.unique RU5.out runs6
        have pf6 := pf_six RLT.out HI.out.ap H4'.out.size PF5.out ON5.out bu6
        have lt4 := LE4.out.1
        have gne6 : ∀ {q : Nat}, q = g → ¬ rown b lv q := fun e hr => by
          have := RLT.out _ hr
          have := HG.out
          omega
        have gne5 : ∀ {q : Nat}, q = g → ¬ own q := fun e hr => by
          have := PLT.out _ hr
          have := HG.out
          omega
        have g6 : w6.heap[g]? = w4.heap[g]? := (bu6.block g (Nat.lt_of_lt_of_le lt4 BU5.out.size) (gne6 rfl)).trans (BU5.out.block g lt4 (gne5 rfl))
        have len6 : Lent w6 g ts := ⟨Nat.lt_of_lt_of_le lt4 (Nat.le_trans BU5.out.size bu6.size), fun j hj => (World.cell?_of_block (w := w4) (a := ⟨g, j, none⟩) g6).trans (LE4.out.2 j hj)⟩
        have fz6 : ∀ j, w6.frozen? ⟨g, j, none⟩ = false := fun j => (World.frozen?_of_block (w := w4) (a := ⟨g, j, none⟩) g6).trans (FZ4.out j)
        have br5' := BR5.out.keep bu6.size (fun q hq hP => bu6.block q hq (fun hr => by
          have := RLT.out q hr
          have := H4'.out.size
          have := hP.1
          omega))
        have is6 : Ints w6 (some ⟨gS, off, none⟩) ts := Ints.keep it5 bu6.size (fun g' o' e' _ => by
          simp only [Option.some.injEq, Addr.mk.injEq] at e'
          obtain ⟨rfl, _, _⟩ := e'
          exact bu6.block _ (Nat.lt_of_lt_of_le (HI.out.s1.2.2 hrn0) (Nat.le_trans H4'.out.size BU5.out.size)) HI.out.s1.2.1)
        obtain ⟨m, hm⟩ : ∃ m, (zs ++ ts).length = m := ⟨_, rfl⟩
        have m9 : m ≤ 9960 := by
          have := TL.out
          rw [← hm, List.length_append]
          omega
        have ol : o.length ≤ 9960 := by
          have := apart_len RU5.out.apart
          omega
        obtain ⟨nb, hnb⟩ : ∃ x, o.length = x := ⟨_, rfl⟩
        have bl : (blks (zs ++ ts) L o).length = nb := by unfold blks; simp [hnb]
        rw [hnb] at ol hoc6
        have SM := Lib.hid (fun nq => same_any _ _ oa ra6 oc rc6 (blks (zs ++ ts) L o) nb bl (by omega) (fun x hx => Nat.le_trans (blks_short _ _ _ x hx) (by omega)) (w6.drewN nq) br5' br6)
        have KP := Lib.hid (fun nq => keptQ_any g ⟨gS, off, none⟩ rc ts rn TL.out (by have := HI.out.hlen; omega) (w6.drewN nq) len6 is6)
        have LK := Lib.hid (fun nq => plocked_any own5 (w6.drewN nq) (.pointer (some P)) L (zs ++ ts) t5 (pf6.keep (Nat.le_refl _) (fun _ _ _ => rfl)))
        have AT := Lib.hid (fun nq => pat_any own5 (w6.drewN nq) (.pointer (some P)) L (zs ++ ts) t5 (pf6.keep (Nat.le_refl _) (fun _ _ _ => rfl)) m hm (by omega))
        have c2 : w6.cell? ⟨b, 2, none⟩ = some (.bool t5.locked) := by have := rf6.obj.cell (j := 2) (by omega); exact this
        have c1 : w6.cell? ⟨b, 1, none⟩ = some lv6 := by have := rf6.obj.cell (j := 1) (by omega); exact this
        obtain ⟨la, lc, hlv⟩ := own_is rf6.row
        rw [hm] at hlv
        rw [hlv] at c1
        obtain ⟨lk, hlk⟩ : ∃ x, t5.locked = x := ⟨_, rfl⟩
        rw [hlk] at c2
        rw [hlk] at LK
        have n1 : ((m : Int) != (m : Int)) = false := by simp
        have n2 : (lk != lk) = false := by simp
        have CEL6 := Lib.hid (show Cel w6 g rn (fun j => .int .i64 ((ts ++ [-77177]).getD j 0)) from ⟨len6.1, fun j hj => ⟨len6.2 j (by rw [TL.out]; omega), fz6 j⟩⟩)
        have NX := Lib.hid (fun (w7 : World) (ra : Option Addr) (hra : rn < rc → ra = some ⟨gS, off + rn, none⟩) (b7 : But g w6 w7) => MfI.next HI.out NT.out hrn0 kr (fun _ => rfl) hra H4'.out HG.out lt4 PF5.out ON5.out BU5.out rf6 own6n bu6 ok6 le6 b7)
        clear pf6 gne6 gne5 g6 len6 fz6 br5' is6 hm bl hlk own6n bu6 br6 ok6 le6 rf6 runs6 q6 it5 hlv BR5 BU5 HI RU5 PF5 ON5 LE4 FZ4 IT IT4 RF4 RFD H4' HG NT SOT TL ZL BW5 RLT PLT
        go_wp2_with fail
        go_quiet (first
          | (go_at_call 24; exact Calls.quiet_of (SM.out _))
          | (go_at_call 25; exact Calls.quiet_of (KP.out _))
          | (go_at_call 26; exact Calls.quiet_of (LK.out _))
          | (go_at_call 27; exact Calls.quiet_of (AT.out _)))
        clear SM KP LK AT
        obtain ⟨w7, hw7⟩ : ∃ x, w6.drewN nq = x := ⟨_, rfl⟩
        have B67 := Lib.hid (show But g w6 w7 from by
          rw [← hw7]
          exact But.of_below (below_drewN (Below.refl _ _) nq) (Nat.le_of_lt CEL6.out.lt))
        have CEL7 := Lib.hid (show Cel w7 g rn (fun j => .int .i64 ((ts ++ [-77177]).getD j 0)) from by
          rw [← hw7]
          exact CEL6.out)
        rw [hw7]
        clear hw7 CEL6 c1 c2
        go_wp2_with fail
        go_loopw [19] (fun x wr => ∃ (j : Nat) (f : Nat → Value), j ≤ rn ∧ x = .int .i64 (j : Nat) ∧ Cel wr g rn f ∧ But g w6 wr) (fun x _ => rn - (intOf x).toNat)
        case atStart => exact ⟨0, _, Nat.zero_le _, rfl, CEL7.out, B67.out⟩
        case round =>
          obtain ⟨j, f, hj, rfl, hF, hB⟩ := hrel
          by_cases hlt : j < rn
          · have j1 : (j : Int) < (rn : Int) := by omega
            have j0 : (0 : Int) ≤ (j : Int) := by omega
            have f0 := hF.cell hlt
            have f1 := hF.frozen hlt
            have HF := Lib.hid hF
            have HBB := Lib.hid hB
            clear hF hB
            go_wp2_with fail
            go_roundw
            case rel => exact ⟨j + 1, _, by omega, by go_num, HF.out.set _ _, HBB.out.setCell _ _⟩
            case measure => simp [intOf]; omega
          · obtain rfl : rn = j := by omega
            have HBB := Lib.hid hB
            clear hF hB B67 CEL7
            go_wp2_with fail
            have MF := NX.out _ (if rc = rn then some ⟨gS, off, none⟩ else some ⟨gS, off + rn, none⟩) (fun h => by rw [if_neg (by omega)]) HBB.out
            exact ⟨⟨i + 1, _, _, _, _, _, _, _, _, by go_num, rfl, (by have q := MF; rw [Nat.sub_self] at q; exact q)⟩, by simp [intOf]; omega⟩
    · have t1 : decide ((0 : Int) < (rn : Int)) = false := by simp; omega
      have HBE := Lib.hid hI.bel
      clear hI
      go_wp2_with fail
      (with_reducible refine (AWH.out _).mono ?_)
      rintro e w9 ⟨rfl, h9⟩
      have H9 := Lib.hid (bt HBE.out h9)
      clear h9
      go_wp2_with fail
      go_ret
      exact ⟨rfl, H9.out⟩
end Go.Proofs.Ytlfnglinalmpjaa
