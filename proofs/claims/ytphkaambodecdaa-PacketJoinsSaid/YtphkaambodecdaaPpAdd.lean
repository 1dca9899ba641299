/- Layer 9, the landed program: add, which adds a packet to the open message. -/
import Derived.Test.YtphkaambodecdaaPpKnown
namespace Go.Proofs.Ytphkaambodecdaa
open Go.RowKit
set_option linter.unusedVariables false
set_option maxRecDepth 100000

/-- The string of a text. -/
theorem txt_back {w : World} {n0 n c : Nat} {a : Option Addr} {l : List UInt8} (h : Txt w n0 (.slice a n c) l) (hl : l ≠ []) : (convert 73 9 (.slice a n c)).run Try.prog w = .ok (.string (bs l)) w := by
  have h0 := h
  obtain ⟨h1, h2⟩ := h
  rcases h2 with ⟨e, e2⟩ | ⟨g, cap, cur, e, hg, hb, hn, hcm, hcs, htk⟩
  · exact absurd (List.eq_nil_of_length_eq_zero e2) hl
  · cases e
    refine back_bytes w g c l (fun j hj => ?_)
    have hc := World.ownsRow.cells (g := g) h0 rfl j (.int .u8 (l[j].toNat)) (by rw [List.getElem?_map, List.getElem?_eq_getElem hj]; rfl)
    rw [add_off, Nat.zero_add] at hc
    refine ⟨by rw [hc, List.getD_eq_getElem?_getD, List.getElem?_eq_getElem hj]; rfl, ?_⟩
    simp [World.frozen?, hb]
theorem txt_app {w : World} {n0 n : Nat} {v : Value} {tx : List UInt8} {da : ByteArray} (hn : tx.length = n) (h : w.ownsRow n0 5 1 v (n + da.size) ((tx.map fun b => Value.int .u8 b.toNat) ++ Lib.strCells da)) : Txt w n0 v (tx ++ da.data.toList) := by
  unfold Txt
  rw [List.length_append, hn, ls, List.map_append]
  exact h
theorem gup_no {tx : List UInt8} {mi : Int} {p : Pkt} (h : tx = [] ∨ (Pk.fstF p = false ∧ mi = 0)) : Pk.gup tx mi p = false ∧ Pk.txL tx mi p = tx := by
  have e : Pk.gup tx mi p = false := by
    unfold Pk.gup
    rcases h with rfl | ⟨h1, h2⟩
    · simp
    · simp [h1, h2]
  refine ⟨e, ?_⟩
  unfold Pk.txL
  rw [e]
  rfl
theorem gup_yes {tx : List UInt8} {mi : Int} {p : Pkt} (h : tx ≠ []) (h2 : Pk.fstF p = true ∨ mi ≠ 0) : Pk.gup tx mi p = true ∧ Pk.txL tx mi p = [] := by
  have e : Pk.gup tx mi p = true := by
    unfold Pk.gup
    rcases h2 with h2 | h2
    · simp [h, h2]
    · simp [h, h2]
  refine ⟨e, ?_⟩
  unfold Pk.txL
  rw [e]
  rfl
theorem add_stop {tx : List UInt8} {mi : Int} {p : Pkt} (h : Pk.fstF p = false) (h2 : Pk.txL tx mi p = []) : Pk.addT tx mi p = [] ∧ Pk.addP tx mi p = ⟨false, [], mi, Pk.gup tx mi p⟩ := by
  unfold Pk.addT Pk.addP
  rw [if_pos ⟨h, h2⟩, if_pos ⟨h, h2⟩]
  exact ⟨rfl, rfl⟩
theorem add_long {tx t2 : List UInt8} {mi : Int} {p : Pkt} (h : ¬ (Pk.fstF p = false ∧ Pk.txL tx mi p = [])) (h2 : Pk.txL tx mi p ++ p.da.data.toList = t2) (h3 : 16384 < t2.length) : Pk.addT tx mi p = [] ∧ Pk.addP tx mi p = ⟨false, [], mi, true⟩ := by
  unfold Pk.addT Pk.addP
  rw [if_neg h, if_neg h, h2, if_pos h3, if_pos h3]
  exact ⟨rfl, rfl⟩
theorem add_last {tx t2 : List UInt8} {mi : Int} {p : Pkt} (h : ¬ (Pk.fstF p = false ∧ Pk.txL tx mi p = [])) (h2 : Pk.txL tx mi p ++ p.da.data.toList = t2) (h3 : ¬ 16384 < t2.length) (h4 : Pk.lstF p = true) : Pk.addT tx mi p = [] ∧ Pk.addP tx mi p = ⟨true, t2, mi, Pk.gup tx mi p⟩ := by
  unfold Pk.addT Pk.addP
  rw [if_neg h, if_neg h, h2, if_neg h3, if_neg h3, if_pos h4, if_pos h4]
  exact ⟨rfl, rfl⟩
theorem add_more {tx t2 : List UInt8} {mi : Int} {p : Pkt} (h : ¬ (Pk.fstF p = false ∧ Pk.txL tx mi p = [])) (h2 : Pk.txL tx mi p ++ p.da.data.toList = t2) (h3 : ¬ 16384 < t2.length) (h4 : Pk.lstF p = false) : Pk.addT tx mi p = t2 ∧ Pk.addP tx mi p = ⟨false, [], mi, Pk.gup tx mi p⟩ := by
  unfold Pk.addT Pk.addP
  rw [if_neg h, if_neg h, h2, if_neg h3, if_neg h3, h4]
  exact ⟨rfl, rfl⟩
set_option maxHeartbeats 8000000 in
theorem padd_c0 (n0 G Q : Nat) (x : Int) (a0 : Option Addr) (m c0 : Nat) (tx : List UInt8) (mi : Int) (p : Pkt) (ho : Pk.Ok p) (hm : tx.length = m) (hml : m ≤ 16384) (hGQ : G ≠ Q) (w : World) (hn0 : n0 ≤ w.heap.size) (hnG : (Value.slice a0 m c0).ownBlock ≠ some G) (hnQ : (Value.slice a0 m c0).ownBlock ≠ some Q)
    (C : Cel w G 2 (knC x (.slice a0 m c0))) (D : Cel w Q 4 (pcC false ⟨#[]⟩ mi false)) (R : Txt w n0 (.slice a0 m c0) tx) (ht : m = 0) (hf : Pk.fstF p = false) : Calls Try.prog 44 #[.pointer (some ⟨G, 0, none⟩), pkVal p, .pointer (some ⟨Q, 0, none⟩)] w (AddP n0 G Q x (.slice a0 m c0) tx mi p w) := by
  have ME := Lib.hid (fun w => meaning_any p ho.2.1 w)
  have HGQ := Lib.hid hGQ
  have HC := Lib.hid C
  have HD := Lib.hid D
  have HR := Lib.hid R
  have HM := Lib.hid hm
  have HN := Lib.hid hn0
  have NG := Lib.hid hnG
  have NQ := Lib.hid hnQ
  have dsz : p.da.size ≤ 1024 := ho.2.2.2.2
  have dpos : 1 ≤ p.da.size := ho.2.2.2.1
  rw [hf] at ME
  obtain ⟨lf, hlf⟩ : ∃ l, Pk.lstF p = l := ⟨_, rfl⟩
  rw [hlf] at ME
  obtain rfl : tx = [] := List.eq_nil_of_length_eq_zero (by omega)
  subst ht
  have GG := Lib.hid (gup_no (tx := []) (mi := mi) (p := p) (.inl rfl))
  have EE := Lib.hid (add_stop (tx := []) (mi := mi) (p := p) hf GG.out.2)
  rw [GG.out.1] at EE
  obtain ⟨i0, hi, hz0, hz1, hz2⟩ := info_parts info_byte
  clear hm hGQ hn0 hnG hnQ C D R hf ho hlf
  go_enter Try.func44, Try.ntmps44
  go_wp2_with (refine wpList_new rfl (.box 23 (.tmp 1)) rfl (some 4) rfl #[.bool p.cmd, .int .i64 p.ap, .int .i64 p.fl, .int .i64 p.ct, .string p.da] 23 (fun X => .pointer (some ⟨X, 0, none⟩)) 5 (pkCel p) (pk_cells p) (box_pk rfl rfl) ?_; intro X w1 HX Sw1 CX1 Bw1; have x12 : w1.cell? ⟨X, 2, none⟩ = some (.int .i64 p.fl) := CX1.out.cell (j := 2) (by omega); have C1 := Lib.hid (HC.out.below Bw1.out); have D1 := Lib.hid (HD.out.below Bw1.out); have R1 := Lib.hid (own_below HR.out Bw1.out); have d12 : w1.cell? ⟨Q, 2, none⟩ = some (.int .i64 mi) := D1.out.cell (j := 2) (by omega); have XN := Lib.hid (show X ≠ G ∧ X ≠ Q by have := HX.out; have := HC.out.1; have := HD.out.1; omega); have U1 := Lib.hid (Buts.of_below (S := fun b => b = G ∨ b = Q ∨ (Value.slice a0 0 c0).ownBlock = some b) Bw1.out); have N1 := Lib.hid (Nat.le_trans HN.out Bw1.out.size))
  (with_reducible refine (ME.out _).mono ?_)
  rintro e w' ⟨rfl, rfl⟩
  go_wp2_with fail
  (with_reducible refine (kopen_any G x a0 0 c0 false rfl _ C1.out).mono ?_)
  rintro e w' ⟨rfl, rfl⟩
  go_wp2_with fail
  (with_reducible refine (kopen_any G x a0 0 c0 false rfl _ C1.out).mono ?_)
  rintro e w' ⟨rfl, rfl⟩
  go_wp2_with fail
  go_end0
  exact ⟨rfl, ⟨a0, 0, c0, C1.out, by rw [EE.out.1]; exact R1.out, by rw [EE.out.1]; rfl, fun k hk => .inl hk⟩, by rw [EE.out.2]; exact D1.out, U1.out⟩
set_option maxHeartbeats 8000000 in
theorem padd_c1l (n0 G Q : Nat) (x : Int) (a0 : Option Addr) (m c0 : Nat) (tx : List UInt8) (mi : Int) (p : Pkt) (ho : Pk.Ok p) (hm : tx.length = m) (hml : m ≤ 16384) (hGQ : G ≠ Q) (w : World) (hn0 : n0 ≤ w.heap.size) (hnG : (Value.slice a0 m c0).ownBlock ≠ some G) (hnQ : (Value.slice a0 m c0).ownBlock ≠ some Q)
    (C : Cel w G 2 (knC x (.slice a0 m c0))) (D : Cel w Q 4 (pcC false ⟨#[]⟩ mi false)) (R : Txt w n0 (.slice a0 m c0) tx) (ht : m = 0) (hf : Pk.fstF p = true) (hl : Pk.lstF p = true) : Calls Try.prog 44 #[.pointer (some ⟨G, 0, none⟩), pkVal p, .pointer (some ⟨Q, 0, none⟩)] w (AddP n0 G Q x (.slice a0 m c0) tx mi p w) := by
  have ME := Lib.hid (fun w => meaning_any p ho.2.1 w)
  have HGQ := Lib.hid hGQ
  have HC := Lib.hid C
  have HD := Lib.hid D
  have HR := Lib.hid R
  have HM := Lib.hid hm
  have HN := Lib.hid hn0
  have NG := Lib.hid hnG
  have NQ := Lib.hid hnQ
  have dsz : p.da.size ≤ 1024 := ho.2.2.2.2
  have dpos : 1 ≤ p.da.size := ho.2.2.2.1
  rw [hf] at ME
  rw [hl] at ME
  obtain rfl : tx = [] := List.eq_nil_of_length_eq_zero (by omega)
  subst ht
  have GG := Lib.hid (gup_no (tx := []) (mi := mi) (p := p) (.inl rfl))
  have EE := Lib.hid (add_last (tx := []) (t2 := (([] : List UInt8) ++ p.da.data.toList)) (mi := mi) (p := p) (fun h => by rw [hf] at h; exact absurd h.1 (by simp)) (by rw [GG.out.2]) (by rw [List.length_append, List.length_nil, ls]; omega) hl)
  rw [GG.out.1] at EE
  obtain ⟨i0, hi, hz0, hz1, hz2⟩ := info_parts info_byte
  obtain ⟨N, hN⟩ : ∃ N, 0 + p.da.size = N := ⟨_, rfl⟩
  have NB : N ≤ 1000000 := by omega
  have y1 : decide ((16384 : Int) < (N : Int)) = false := by simp; omega
  have y1n : decide (16384 < N) = false := by simp; omega
  have HNN := Lib.hid hN
  have HT2 := Lib.hid (show (([] : List UInt8) ++ p.da.data.toList).length = N by rw [List.length_append, List.length_nil, ls]; exact hN)
  have T2N := Lib.hid (show (([] : List UInt8) ++ p.da.data.toList) ≠ [] from fun e => by have h := HT2.out; rw [e] at h; simp at h; omega)
  clear hm hGQ hn0 hnG hnQ C D R hf ho hl hN
  go_enter Try.func44, Try.ntmps44
  go_wp2_with (refine wpList_new rfl (.box 23 (.tmp 1)) rfl (some 4) rfl #[.bool p.cmd, .int .i64 p.ap, .int .i64 p.fl, .int .i64 p.ct, .string p.da] 23 (fun X => .pointer (some ⟨X, 0, none⟩)) 5 (pkCel p) (pk_cells p) (box_pk rfl rfl) ?_; intro X w1 HX Sw1 CX1 Bw1; have x12 : w1.cell? ⟨X, 2, none⟩ = some (.int .i64 p.fl) := CX1.out.cell (j := 2) (by omega); have C1 := Lib.hid (HC.out.below Bw1.out); have D1 := Lib.hid (HD.out.below Bw1.out); have R1 := Lib.hid (own_below HR.out Bw1.out); have d12 : w1.cell? ⟨Q, 2, none⟩ = some (.int .i64 mi) := D1.out.cell (j := 2) (by omega); have XN := Lib.hid (show X ≠ G ∧ X ≠ Q by have := HX.out; have := HC.out.1; have := HD.out.1; omega); have U1 := Lib.hid (Buts.of_below (S := fun b => b = G ∨ b = Q ∨ (Value.slice a0 0 c0).ownBlock = some b) Bw1.out); have N1 := Lib.hid (Nat.le_trans HN.out Bw1.out.size))
  (with_reducible refine (ME.out _).mono ?_)
  rintro e w' ⟨rfl, rfl⟩
  go_wp2_with fail
  (with_reducible refine (kopen_any G x a0 0 c0 false rfl _ C1.out).mono ?_)
  rintro e w' ⟨rfl, rfl⟩
  go_wp2_with fail
  go_upto_region 5 with fail
  refine apRegion G X 0 c0 n0 a0 ((([] : List UInt8)).map fun b => Value.int .u8 b.toNat) p.da i0 hi hz0 hz1 hz2 (by have := HNN.out; omega) (C1.out.cell (j := 1) (by omega)) (CX1.out.cell (j := 4) (by omega)) (show w1.ownsRow n0 5 1 _ 0 _ from by have h := R1.out; unfold Txt at h; exact h) N1.out (by kernel_rfl) rfl rfl rfl rfl rfl rfl rfl rfl rfl rfl rfl ?_
  rintro v7 w7 ⟨h7, g7, k7⟩
  obtain ⟨a7, c7, rfl⟩ := own_is h7
  simp only [Act.put, List.setIfInBounds_toArray, List.set_cons_succ, List.set_cons_zero, List.drop_succ_cons, List.drop_zero]
  have T7 := Lib.hid (txt_app (tx := ([] : List UInt8)) (n := 0) rfl h7)
  have lG : G < w1.heap.size := C1.out.1
  have lQ : Q < w1.heap.size := D1.out.1
  have C7 := Lib.hid (C1.out.of_block (g7.block G lG (fun e => NG.out e.symm)))
  have D7 := Lib.hid (D1.out.of_block (g7.block Q lQ (fun e => NQ.out e.symm)))
  have U7 := Lib.hid ((U1.out.trans (Buts.of_below (S := fun b => b = G ∨ b = Q ∨ (Value.slice a0 0 c0).ownBlock = some b) (Below.refl w1.heap.size w1).drew)).trans (Buts.of_grown (w := w1.drew) (S := fun b => b = G ∨ b = Q ∨ (Value.slice a0 0 c0).ownBlock = some b) g7 (fun k hk => .inr (.inr hk))))
  have LC := Lib.hid (show ∀ k, (Value.slice a7 (0 + p.da.size) c7).ownBlock = some k → (Value.slice a0 0 c0).ownBlock = some k ∨ w.heap.size ≤ k from fun k hk => by
    rcases k7 with g | g
    · exact .inl (g.symm.trans hk)
    · have h3 : some k = some w1.heap.size := hk.symm.trans g
      simp only [Option.some.injEq] at h3
      have := U1.out.size
      exact .inr (by omega))
  have NG7 := Lib.hid (show (Value.slice a7 (0 + p.da.size) c7).ownBlock ≠ some G from fun e => (LC.out G e).elim NG.out (fun h => by have := HC.out.1; omega))
  have NQ7 := Lib.hid (show (Value.slice a7 (0 + p.da.size) c7).ownBlock ≠ some Q from fun e => (LC.out Q e).elim NQ.out (fun h => by have := HD.out.1; omega))
  clear h7 g7 k7 lG lQ
  rw [HNN.out] at T7 LC NG7 NQ7
  rw [HNN.out]
  go_wp2_with (first
    | (refine wpList_set rfl (.store 73 (.tmp 45) (.tmp 43)) rfl G 1 2 (.slice a7 N c7) _ (knC x (.slice a7 N c7)) C7.out (by omega) (fun j hj => by match j, hj with | 0, _ => rfl | 1, _ => rfl) (store_bytes rfl rfl rfl (C7.out.cell (j := 1) (by omega)) (C7.out.frozen (j := 1) (by omega))) ?_; intro w8 C8 V8 S8; have D8 := Lib.hid (D7.out.but V8.out (fun e => HGQ.out e.symm)); have T8 := Lib.hid (own_but T7.out V8.out NG7.out); have U8 := Lib.hid (U7.out.trans (Buts.of_but V8.out (.inl rfl))); have g8 : w8.cell? ⟨G, 1, none⟩ = some (.slice a7 N c7) := C8.out.cell (j := 1) (by omega); have CV := Lib.hid (txt_back T8.out T2N.out))
    | simp only [CV.out]
    | (refine wpList_set rfl (.store 4 (.tmp 64) (.const (.bool true))) rfl Q 0 4 (.bool true) _ (pcC true ⟨#[]⟩ mi false) D8.out (by omega) (fun j hj => by match j, hj with | 0, _ => rfl | 1, _ => rfl | 2, _ => rfl | 3, _ => rfl) (store_bool rfl rfl rfl (D8.out.cell (j := 0) (by omega)) (D8.out.frozen (j := 0) (by omega))) ?_; intro w9 D9 V9 S9; have C9 := Lib.hid (C8.out.but V9.out HGQ.out))
    | (refine wpList_set rfl (.store 9 (.tmp 66) (.tmp 62)) rfl Q 1 4 (.string (bs (([] : List UInt8) ++ p.da.data.toList))) _ (pcC true (bs (([] : List UInt8) ++ p.da.data.toList)) mi false) D9.out (by omega) (fun j hj => by match j, hj with | 0, _ => rfl | 1, _ => rfl | 2, _ => rfl | 3, _ => rfl) (store_str rfl rfl rfl (D9.out.cell (j := 1) (by omega)) (D9.out.frozen (j := 1) (by omega))) ?_; intro w10 D10 V10 S10; have C10 := Lib.hid (C9.out.but V10.out HGQ.out))
    | (refine wpList_set rfl (.store 73 (.tmp 69) (.const (.slice none 0 0))) rfl G 1 2 (.slice none 0 0) _ (knC x (.slice none 0 0)) C10.out (by omega) (fun j hj => by match j, hj with | 0, _ => rfl | 1, _ => rfl) (store_bytes rfl rfl rfl (C10.out.cell (j := 1) (by omega)) (C10.out.frozen (j := 1) (by omega))) ?_; intro w11 C11 V11 S11; have D11 := Lib.hid (D10.out.but V11.out (fun e => HGQ.out e.symm))))
  go_end0
  exact ⟨rfl, ⟨none, 0, 0, C11.out, by rw [EE.out.1]; exact Txt.nil _ _, by rw [EE.out.1]; rfl, fun k hk => by cases hk⟩, by rw [EE.out.2]; exact D11.out, ((U8.out.trans (Buts.of_but V9.out (.inr (.inl rfl)))).trans (Buts.of_but V10.out (.inr (.inl rfl)))).trans (Buts.of_but V11.out (.inl rfl))⟩
set_option maxHeartbeats 8000000 in
theorem padd_c1m (n0 G Q : Nat) (x : Int) (a0 : Option Addr) (m c0 : Nat) (tx : List UInt8) (mi : Int) (p : Pkt) (ho : Pk.Ok p) (hm : tx.length = m) (hml : m ≤ 16384) (hGQ : G ≠ Q) (w : World) (hn0 : n0 ≤ w.heap.size) (hnG : (Value.slice a0 m c0).ownBlock ≠ some G) (hnQ : (Value.slice a0 m c0).ownBlock ≠ some Q)
    (C : Cel w G 2 (knC x (.slice a0 m c0))) (D : Cel w Q 4 (pcC false ⟨#[]⟩ mi false)) (R : Txt w n0 (.slice a0 m c0) tx) (ht : m = 0) (hf : Pk.fstF p = true) (hl : Pk.lstF p = false) : Calls Try.prog 44 #[.pointer (some ⟨G, 0, none⟩), pkVal p, .pointer (some ⟨Q, 0, none⟩)] w (AddP n0 G Q x (.slice a0 m c0) tx mi p w) := by
  have ME := Lib.hid (fun w => meaning_any p ho.2.1 w)
  have HGQ := Lib.hid hGQ
  have HC := Lib.hid C
  have HD := Lib.hid D
  have HR := Lib.hid R
  have HM := Lib.hid hm
  have HN := Lib.hid hn0
  have NG := Lib.hid hnG
  have NQ := Lib.hid hnQ
  have dsz : p.da.size ≤ 1024 := ho.2.2.2.2
  have dpos : 1 ≤ p.da.size := ho.2.2.2.1
  rw [hf] at ME
  rw [hl] at ME
  obtain rfl : tx = [] := List.eq_nil_of_length_eq_zero (by omega)
  subst ht
  have GG := Lib.hid (gup_no (tx := []) (mi := mi) (p := p) (.inl rfl))
  have EE := Lib.hid (add_more (tx := []) (t2 := (([] : List UInt8) ++ p.da.data.toList)) (mi := mi) (p := p) (fun h => by rw [hf] at h; exact absurd h.1 (by simp)) (by rw [GG.out.2]) (by rw [List.length_append, List.length_nil, ls]; omega) hl)
  rw [GG.out.1] at EE
  obtain ⟨i0, hi, hz0, hz1, hz2⟩ := info_parts info_byte
  obtain ⟨N, hN⟩ : ∃ N, 0 + p.da.size = N := ⟨_, rfl⟩
  have NB : N ≤ 1000000 := by omega
  have y1 : decide ((16384 : Int) < (N : Int)) = false := by simp; omega
  have y1n : decide (16384 < N) = false := by simp; omega
  have HNN := Lib.hid hN
  have HT2 := Lib.hid (show (([] : List UInt8) ++ p.da.data.toList).length = N by rw [List.length_append, List.length_nil, ls]; exact hN)
  have T2N := Lib.hid (show (([] : List UInt8) ++ p.da.data.toList) ≠ [] from fun e => by have h := HT2.out; rw [e] at h; simp at h; omega)
  clear hm hGQ hn0 hnG hnQ C D R hf ho hl hN
  go_enter Try.func44, Try.ntmps44
  go_wp2_with (refine wpList_new rfl (.box 23 (.tmp 1)) rfl (some 4) rfl #[.bool p.cmd, .int .i64 p.ap, .int .i64 p.fl, .int .i64 p.ct, .string p.da] 23 (fun X => .pointer (some ⟨X, 0, none⟩)) 5 (pkCel p) (pk_cells p) (box_pk rfl rfl) ?_; intro X w1 HX Sw1 CX1 Bw1; have x12 : w1.cell? ⟨X, 2, none⟩ = some (.int .i64 p.fl) := CX1.out.cell (j := 2) (by omega); have C1 := Lib.hid (HC.out.below Bw1.out); have D1 := Lib.hid (HD.out.below Bw1.out); have R1 := Lib.hid (own_below HR.out Bw1.out); have d12 : w1.cell? ⟨Q, 2, none⟩ = some (.int .i64 mi) := D1.out.cell (j := 2) (by omega); have XN := Lib.hid (show X ≠ G ∧ X ≠ Q by have := HX.out; have := HC.out.1; have := HD.out.1; omega); have U1 := Lib.hid (Buts.of_below (S := fun b => b = G ∨ b = Q ∨ (Value.slice a0 0 c0).ownBlock = some b) Bw1.out); have N1 := Lib.hid (Nat.le_trans HN.out Bw1.out.size))
  (with_reducible refine (ME.out _).mono ?_)
  rintro e w' ⟨rfl, rfl⟩
  go_wp2_with fail
  (with_reducible refine (kopen_any G x a0 0 c0 false rfl _ C1.out).mono ?_)
  rintro e w' ⟨rfl, rfl⟩
  go_wp2_with fail
  go_upto_region 5 with fail
  refine apRegion G X 0 c0 n0 a0 ((([] : List UInt8)).map fun b => Value.int .u8 b.toNat) p.da i0 hi hz0 hz1 hz2 (by have := HNN.out; omega) (C1.out.cell (j := 1) (by omega)) (CX1.out.cell (j := 4) (by omega)) (show w1.ownsRow n0 5 1 _ 0 _ from by have h := R1.out; unfold Txt at h; exact h) N1.out (by kernel_rfl) rfl rfl rfl rfl rfl rfl rfl rfl rfl rfl rfl ?_
  rintro v7 w7 ⟨h7, g7, k7⟩
  obtain ⟨a7, c7, rfl⟩ := own_is h7
  simp only [Act.put, List.setIfInBounds_toArray, List.set_cons_succ, List.set_cons_zero, List.drop_succ_cons, List.drop_zero]
  have T7 := Lib.hid (txt_app (tx := ([] : List UInt8)) (n := 0) rfl h7)
  have lG : G < w1.heap.size := C1.out.1
  have lQ : Q < w1.heap.size := D1.out.1
  have C7 := Lib.hid (C1.out.of_block (g7.block G lG (fun e => NG.out e.symm)))
  have D7 := Lib.hid (D1.out.of_block (g7.block Q lQ (fun e => NQ.out e.symm)))
  have U7 := Lib.hid ((U1.out.trans (Buts.of_below (S := fun b => b = G ∨ b = Q ∨ (Value.slice a0 0 c0).ownBlock = some b) (Below.refl w1.heap.size w1).drew)).trans (Buts.of_grown (w := w1.drew) (S := fun b => b = G ∨ b = Q ∨ (Value.slice a0 0 c0).ownBlock = some b) g7 (fun k hk => .inr (.inr hk))))
  have LC := Lib.hid (show ∀ k, (Value.slice a7 (0 + p.da.size) c7).ownBlock = some k → (Value.slice a0 0 c0).ownBlock = some k ∨ w.heap.size ≤ k from fun k hk => by
    rcases k7 with g | g
    · exact .inl (g.symm.trans hk)
    · have h3 : some k = some w1.heap.size := hk.symm.trans g
      simp only [Option.some.injEq] at h3
      have := U1.out.size
      exact .inr (by omega))
  have NG7 := Lib.hid (show (Value.slice a7 (0 + p.da.size) c7).ownBlock ≠ some G from fun e => (LC.out G e).elim NG.out (fun h => by have := HC.out.1; omega))
  have NQ7 := Lib.hid (show (Value.slice a7 (0 + p.da.size) c7).ownBlock ≠ some Q from fun e => (LC.out Q e).elim NQ.out (fun h => by have := HD.out.1; omega))
  clear h7 g7 k7 lG lQ
  rw [HNN.out] at T7 LC NG7 NQ7
  rw [HNN.out]
  go_wp2_with (refine wpList_set rfl (.store 73 (.tmp 45) (.tmp 43)) rfl G 1 2 (.slice a7 N c7) _ (knC x (.slice a7 N c7)) C7.out (by omega) (fun j hj => by match j, hj with | 0, _ => rfl | 1, _ => rfl) (store_bytes rfl rfl rfl (C7.out.cell (j := 1) (by omega)) (C7.out.frozen (j := 1) (by omega))) ?_; intro w8 C8 V8 S8; have D8 := Lib.hid (D7.out.but V8.out (fun e => HGQ.out e.symm)); have T8 := Lib.hid (own_but T7.out V8.out NG7.out); have U8 := Lib.hid (U7.out.trans (Buts.of_but V8.out (.inl rfl))); have g8 : w8.cell? ⟨G, 1, none⟩ = some (.slice a7 N c7) := C8.out.cell (j := 1) (by omega))
  go_end0
  exact ⟨rfl, ⟨a7, N, c7, C8.out, by rw [EE.out.1]; exact T8.out, by rw [EE.out.1]; exact HT2.out.symm, LC.out⟩, by rw [EE.out.2]; exact D8.out, U8.out⟩
set_option maxHeartbeats 8000000 in
theorem padd_o1l (n0 G Q : Nat) (x : Int) (a0 : Option Addr) (m c0 : Nat) (tx : List UInt8) (mi : Int) (p : Pkt) (ho : Pk.Ok p) (hm : tx.length = m) (hml : m ≤ 16384) (hGQ : G ≠ Q) (w : World) (hn0 : n0 ≤ w.heap.size) (hnG : (Value.slice a0 m c0).ownBlock ≠ some G) (hnQ : (Value.slice a0 m c0).ownBlock ≠ some Q)
    (C : Cel w G 2 (knC x (.slice a0 m c0))) (D : Cel w Q 4 (pcC false ⟨#[]⟩ mi false)) (R : Txt w n0 (.slice a0 m c0) tx) (ht : 0 < m) (hf : Pk.fstF p = true) (hl : Pk.lstF p = true) : Calls Try.prog 44 #[.pointer (some ⟨G, 0, none⟩), pkVal p, .pointer (some ⟨Q, 0, none⟩)] w (AddP n0 G Q x (.slice a0 m c0) tx mi p w) := by
  have ME := Lib.hid (fun w => meaning_any p ho.2.1 w)
  have HGQ := Lib.hid hGQ
  have HC := Lib.hid C
  have HD := Lib.hid D
  have HR := Lib.hid R
  have HM := Lib.hid hm
  have HN := Lib.hid hn0
  have NG := Lib.hid hnG
  have NQ := Lib.hid hnQ
  have dsz : p.da.size ≤ 1024 := ho.2.2.2.2
  have dpos : 1 ≤ p.da.size := ho.2.2.2.1
  rw [hf] at ME
  rw [hl] at ME
  have tn : tx ≠ [] := fun e => by subst e; simp at hm; omega
  have GG := Lib.hid (gup_yes (tx := tx) (mi := mi) (p := p) tn (.inl hf))
  have EE := Lib.hid (add_last (tx := tx) (t2 := (([] : List UInt8) ++ p.da.data.toList)) (mi := mi) (p := p) (fun h => by rw [hf] at h; exact absurd h.1 (by simp)) (by rw [GG.out.2]) (by rw [List.length_append, List.length_nil, ls]; omega) hl)
  rw [GG.out.1] at EE
  obtain ⟨i0, hi, hz0, hz1, hz2⟩ := info_parts info_byte
  obtain ⟨N, hN⟩ : ∃ N, 0 + p.da.size = N := ⟨_, rfl⟩
  have NB : N ≤ 1000000 := by omega
  have y1 : decide ((16384 : Int) < (N : Int)) = false := by simp; omega
  have y1n : decide (16384 < N) = false := by simp; omega
  have HNN := Lib.hid hN
  have HT2 := Lib.hid (show (([] : List UInt8) ++ p.da.data.toList).length = N by rw [List.length_append, List.length_nil, ls]; exact hN)
  have T2N := Lib.hid (show (([] : List UInt8) ++ p.da.data.toList) ≠ [] from fun e => by have h := HT2.out; rw [e] at h; simp at h; omega)
  clear hm hGQ hn0 hnG hnQ C D R hf ho hl tn hN
  go_enter Try.func44, Try.ntmps44
  go_wp2_with (refine wpList_new rfl (.box 23 (.tmp 1)) rfl (some 4) rfl #[.bool p.cmd, .int .i64 p.ap, .int .i64 p.fl, .int .i64 p.ct, .string p.da] 23 (fun X => .pointer (some ⟨X, 0, none⟩)) 5 (pkCel p) (pk_cells p) (box_pk rfl rfl) ?_; intro X w1 HX Sw1 CX1 Bw1; have x12 : w1.cell? ⟨X, 2, none⟩ = some (.int .i64 p.fl) := CX1.out.cell (j := 2) (by omega); have C1 := Lib.hid (HC.out.below Bw1.out); have D1 := Lib.hid (HD.out.below Bw1.out); have R1 := Lib.hid (own_below HR.out Bw1.out); have d12 : w1.cell? ⟨Q, 2, none⟩ = some (.int .i64 mi) := D1.out.cell (j := 2) (by omega); have XN := Lib.hid (show X ≠ G ∧ X ≠ Q by have := HX.out; have := HC.out.1; have := HD.out.1; omega); have U1 := Lib.hid (Buts.of_below (S := fun b => b = G ∨ b = Q ∨ (Value.slice a0 m c0).ownBlock = some b) Bw1.out); have N1 := Lib.hid (Nat.le_trans HN.out Bw1.out.size))
  (with_reducible refine (ME.out _).mono ?_)
  rintro e w' ⟨rfl, rfl⟩
  go_wp2_with fail
  (with_reducible refine (kopen_any G x a0 m c0 true (decide_eq_true ht) _ C1.out).mono ?_)
  rintro e w' ⟨rfl, rfl⟩
  go_wp2_with fail
  (with_reducible refine (giveUp_any G Q x _ false ⟨#[]⟩ mi false a0 m c0 rfl HGQ.out _ C1.out D1.out).mono ?_)
  rintro e w2 ⟨rfl, c2', d2', u2'⟩
  have C2 := Lib.hid c2'
  have D2 := Lib.hid d2'
  have CX2 := Lib.hid (CX1.out.of_block (u2'.block X CX1.out.1 (fun h => by have := XN.out; omega)))
  have U2 := Lib.hid (U1.out.trans (u2'.mono (fun b hb => by rcases hb with h | h <;> simp [h])))
  have N2 := Lib.hid (Nat.le_trans N1.out u2'.size)
  clear c2' d2' u2'
  go_wp2_with fail
  go_upto_region 5 with fail
  refine apRegion G X 0 0 n0 none ((([] : List UInt8)).map fun b => Value.int .u8 b.toNat) p.da i0 hi hz0 hz1 hz2 (by have := HNN.out; omega) (C2.out.cell (j := 1) (by omega)) (CX2.out.cell (j := 4) (by omega)) (show w2.ownsRow n0 5 1 _ 0 _ from by have h := (Txt.nil w2 n0); unfold Txt at h; exact h) N2.out (by kernel_rfl) rfl rfl rfl rfl rfl rfl rfl rfl rfl rfl rfl ?_
  rintro v7 w7 ⟨h7, g7, k7⟩
  obtain ⟨a7, c7, rfl⟩ := own_is h7
  simp only [Act.put, List.setIfInBounds_toArray, List.set_cons_succ, List.set_cons_zero, List.drop_succ_cons, List.drop_zero]
  have T7 := Lib.hid (txt_app (tx := ([] : List UInt8)) (n := 0) rfl h7)
  have lG : G < w2.heap.size := C2.out.1
  have lQ : Q < w2.heap.size := D2.out.1
  have C7 := Lib.hid (C2.out.of_block (g7.block G lG (fun e => by cases e)))
  have D7 := Lib.hid (D2.out.of_block (g7.block Q lQ (fun e => by cases e)))
  have U7 := Lib.hid ((U2.out.trans (Buts.of_below (S := fun b => b = G ∨ b = Q ∨ (Value.slice a0 m c0).ownBlock = some b) (Below.refl w2.heap.size w2).drew)).trans (Buts.of_grown (w := w2.drew) (S := fun b => b = G ∨ b = Q ∨ (Value.slice a0 m c0).ownBlock = some b) g7 (fun k hk => absurd hk (by simp [Value.ownBlock]))))
  have LC := Lib.hid (show ∀ k, (Value.slice a7 (0 + p.da.size) c7).ownBlock = some k → (Value.slice a0 m c0).ownBlock = some k ∨ w.heap.size ≤ k from fun k hk => by
    rcases k7 with g | g
    · exact .inl (by have h := g.symm.trans hk; cases h)
    · have h3 : some k = some w2.heap.size := hk.symm.trans g
      simp only [Option.some.injEq] at h3
      have := U2.out.size
      exact .inr (by omega))
  have NG7 := Lib.hid (show (Value.slice a7 (0 + p.da.size) c7).ownBlock ≠ some G from fun e => (LC.out G e).elim NG.out (fun h => by have := HC.out.1; omega))
  have NQ7 := Lib.hid (show (Value.slice a7 (0 + p.da.size) c7).ownBlock ≠ some Q from fun e => (LC.out Q e).elim NQ.out (fun h => by have := HD.out.1; omega))
  clear h7 g7 k7 lG lQ
  rw [HNN.out] at T7 LC NG7 NQ7
  rw [HNN.out]
  go_wp2_with (first
    | (refine wpList_set rfl (.store 73 (.tmp 45) (.tmp 43)) rfl G 1 2 (.slice a7 N c7) _ (knC x (.slice a7 N c7)) C7.out (by omega) (fun j hj => by match j, hj with | 0, _ => rfl | 1, _ => rfl) (store_bytes rfl rfl rfl (C7.out.cell (j := 1) (by omega)) (C7.out.frozen (j := 1) (by omega))) ?_; intro w8 C8 V8 S8; have D8 := Lib.hid (D7.out.but V8.out (fun e => HGQ.out e.symm)); have T8 := Lib.hid (own_but T7.out V8.out NG7.out); have U8 := Lib.hid (U7.out.trans (Buts.of_but V8.out (.inl rfl))); have g8 : w8.cell? ⟨G, 1, none⟩ = some (.slice a7 N c7) := C8.out.cell (j := 1) (by omega); have CV := Lib.hid (txt_back T8.out T2N.out))
    | simp only [CV.out]
    | (refine wpList_set rfl (.store 4 (.tmp 64) (.const (.bool true))) rfl Q 0 4 (.bool true) _ (pcC true ⟨#[]⟩ mi true) D8.out (by omega) (fun j hj => by match j, hj with | 0, _ => rfl | 1, _ => rfl | 2, _ => rfl | 3, _ => rfl) (store_bool rfl rfl rfl (D8.out.cell (j := 0) (by omega)) (D8.out.frozen (j := 0) (by omega))) ?_; intro w9 D9 V9 S9; have C9 := Lib.hid (C8.out.but V9.out HGQ.out))
    | (refine wpList_set rfl (.store 9 (.tmp 66) (.tmp 62)) rfl Q 1 4 (.string (bs (([] : List UInt8) ++ p.da.data.toList))) _ (pcC true (bs (([] : List UInt8) ++ p.da.data.toList)) mi true) D9.out (by omega) (fun j hj => by match j, hj with | 0, _ => rfl | 1, _ => rfl | 2, _ => rfl | 3, _ => rfl) (store_str rfl rfl rfl (D9.out.cell (j := 1) (by omega)) (D9.out.frozen (j := 1) (by omega))) ?_; intro w10 D10 V10 S10; have C10 := Lib.hid (C9.out.but V10.out HGQ.out))
    | (refine wpList_set rfl (.store 73 (.tmp 69) (.const (.slice none 0 0))) rfl G 1 2 (.slice none 0 0) _ (knC x (.slice none 0 0)) C10.out (by omega) (fun j hj => by match j, hj with | 0, _ => rfl | 1, _ => rfl) (store_bytes rfl rfl rfl (C10.out.cell (j := 1) (by omega)) (C10.out.frozen (j := 1) (by omega))) ?_; intro w11 C11 V11 S11; have D11 := Lib.hid (D10.out.but V11.out (fun e => HGQ.out e.symm))))
  go_end0
  exact ⟨rfl, ⟨none, 0, 0, C11.out, by rw [EE.out.1]; exact Txt.nil _ _, by rw [EE.out.1]; rfl, fun k hk => by cases hk⟩, by rw [EE.out.2]; exact D11.out, ((U8.out.trans (Buts.of_but V9.out (.inr (.inl rfl)))).trans (Buts.of_but V10.out (.inr (.inl rfl)))).trans (Buts.of_but V11.out (.inl rfl))⟩
set_option maxHeartbeats 8000000 in
theorem padd_o1m (n0 G Q : Nat) (x : Int) (a0 : Option Addr) (m c0 : Nat) (tx : List UInt8) (mi : Int) (p : Pkt) (ho : Pk.Ok p) (hm : tx.length = m) (hml : m ≤ 16384) (hGQ : G ≠ Q) (w : World) (hn0 : n0 ≤ w.heap.size) (hnG : (Value.slice a0 m c0).ownBlock ≠ some G) (hnQ : (Value.slice a0 m c0).ownBlock ≠ some Q)
    (C : Cel w G 2 (knC x (.slice a0 m c0))) (D : Cel w Q 4 (pcC false ⟨#[]⟩ mi false)) (R : Txt w n0 (.slice a0 m c0) tx) (ht : 0 < m) (hf : Pk.fstF p = true) (hl : Pk.lstF p = false) : Calls Try.prog 44 #[.pointer (some ⟨G, 0, none⟩), pkVal p, .pointer (some ⟨Q, 0, none⟩)] w (AddP n0 G Q x (.slice a0 m c0) tx mi p w) := by
  have ME := Lib.hid (fun w => meaning_any p ho.2.1 w)
  have HGQ := Lib.hid hGQ
  have HC := Lib.hid C
  have HD := Lib.hid D
  have HR := Lib.hid R
  have HM := Lib.hid hm
  have HN := Lib.hid hn0
  have NG := Lib.hid hnG
  have NQ := Lib.hid hnQ
  have dsz : p.da.size ≤ 1024 := ho.2.2.2.2
  have dpos : 1 ≤ p.da.size := ho.2.2.2.1
  rw [hf] at ME
  rw [hl] at ME
  have tn : tx ≠ [] := fun e => by subst e; simp at hm; omega
  have GG := Lib.hid (gup_yes (tx := tx) (mi := mi) (p := p) tn (.inl hf))
  have EE := Lib.hid (add_more (tx := tx) (t2 := (([] : List UInt8) ++ p.da.data.toList)) (mi := mi) (p := p) (fun h => by rw [hf] at h; exact absurd h.1 (by simp)) (by rw [GG.out.2]) (by rw [List.length_append, List.length_nil, ls]; omega) hl)
  rw [GG.out.1] at EE
  obtain ⟨i0, hi, hz0, hz1, hz2⟩ := info_parts info_byte
  obtain ⟨N, hN⟩ : ∃ N, 0 + p.da.size = N := ⟨_, rfl⟩
  have NB : N ≤ 1000000 := by omega
  have y1 : decide ((16384 : Int) < (N : Int)) = false := by simp; omega
  have y1n : decide (16384 < N) = false := by simp; omega
  have HNN := Lib.hid hN
  have HT2 := Lib.hid (show (([] : List UInt8) ++ p.da.data.toList).length = N by rw [List.length_append, List.length_nil, ls]; exact hN)
  have T2N := Lib.hid (show (([] : List UInt8) ++ p.da.data.toList) ≠ [] from fun e => by have h := HT2.out; rw [e] at h; simp at h; omega)
  clear hm hGQ hn0 hnG hnQ C D R hf ho hl tn hN
  go_enter Try.func44, Try.ntmps44
  go_wp2_with (refine wpList_new rfl (.box 23 (.tmp 1)) rfl (some 4) rfl #[.bool p.cmd, .int .i64 p.ap, .int .i64 p.fl, .int .i64 p.ct, .string p.da] 23 (fun X => .pointer (some ⟨X, 0, none⟩)) 5 (pkCel p) (pk_cells p) (box_pk rfl rfl) ?_; intro X w1 HX Sw1 CX1 Bw1; have x12 : w1.cell? ⟨X, 2, none⟩ = some (.int .i64 p.fl) := CX1.out.cell (j := 2) (by omega); have C1 := Lib.hid (HC.out.below Bw1.out); have D1 := Lib.hid (HD.out.below Bw1.out); have R1 := Lib.hid (own_below HR.out Bw1.out); have d12 : w1.cell? ⟨Q, 2, none⟩ = some (.int .i64 mi) := D1.out.cell (j := 2) (by omega); have XN := Lib.hid (show X ≠ G ∧ X ≠ Q by have := HX.out; have := HC.out.1; have := HD.out.1; omega); have U1 := Lib.hid (Buts.of_below (S := fun b => b = G ∨ b = Q ∨ (Value.slice a0 m c0).ownBlock = some b) Bw1.out); have N1 := Lib.hid (Nat.le_trans HN.out Bw1.out.size))
  (with_reducible refine (ME.out _).mono ?_)
  rintro e w' ⟨rfl, rfl⟩
  go_wp2_with fail
  (with_reducible refine (kopen_any G x a0 m c0 true (decide_eq_true ht) _ C1.out).mono ?_)
  rintro e w' ⟨rfl, rfl⟩
  go_wp2_with fail
  (with_reducible refine (giveUp_any G Q x _ false ⟨#[]⟩ mi false a0 m c0 rfl HGQ.out _ C1.out D1.out).mono ?_)
  rintro e w2 ⟨rfl, c2', d2', u2'⟩
  have C2 := Lib.hid c2'
  have D2 := Lib.hid d2'
  have CX2 := Lib.hid (CX1.out.of_block (u2'.block X CX1.out.1 (fun h => by have := XN.out; omega)))
  have U2 := Lib.hid (U1.out.trans (u2'.mono (fun b hb => by rcases hb with h | h <;> simp [h])))
  have N2 := Lib.hid (Nat.le_trans N1.out u2'.size)
  clear c2' d2' u2'
  go_wp2_with fail
  go_upto_region 5 with fail
  refine apRegion G X 0 0 n0 none ((([] : List UInt8)).map fun b => Value.int .u8 b.toNat) p.da i0 hi hz0 hz1 hz2 (by have := HNN.out; omega) (C2.out.cell (j := 1) (by omega)) (CX2.out.cell (j := 4) (by omega)) (show w2.ownsRow n0 5 1 _ 0 _ from by have h := (Txt.nil w2 n0); unfold Txt at h; exact h) N2.out (by kernel_rfl) rfl rfl rfl rfl rfl rfl rfl rfl rfl rfl rfl ?_
  rintro v7 w7 ⟨h7, g7, k7⟩
  obtain ⟨a7, c7, rfl⟩ := own_is h7
  simp only [Act.put, List.setIfInBounds_toArray, List.set_cons_succ, List.set_cons_zero, List.drop_succ_cons, List.drop_zero]
  have T7 := Lib.hid (txt_app (tx := ([] : List UInt8)) (n := 0) rfl h7)
  have lG : G < w2.heap.size := C2.out.1
  have lQ : Q < w2.heap.size := D2.out.1
  have C7 := Lib.hid (C2.out.of_block (g7.block G lG (fun e => by cases e)))
  have D7 := Lib.hid (D2.out.of_block (g7.block Q lQ (fun e => by cases e)))
  have U7 := Lib.hid ((U2.out.trans (Buts.of_below (S := fun b => b = G ∨ b = Q ∨ (Value.slice a0 m c0).ownBlock = some b) (Below.refl w2.heap.size w2).drew)).trans (Buts.of_grown (w := w2.drew) (S := fun b => b = G ∨ b = Q ∨ (Value.slice a0 m c0).ownBlock = some b) g7 (fun k hk => absurd hk (by simp [Value.ownBlock]))))
  have LC := Lib.hid (show ∀ k, (Value.slice a7 (0 + p.da.size) c7).ownBlock = some k → (Value.slice a0 m c0).ownBlock = some k ∨ w.heap.size ≤ k from fun k hk => by
    rcases k7 with g | g
    · exact .inl (by have h := g.symm.trans hk; cases h)
    · have h3 : some k = some w2.heap.size := hk.symm.trans g
      simp only [Option.some.injEq] at h3
      have := U2.out.size
      exact .inr (by omega))
  have NG7 := Lib.hid (show (Value.slice a7 (0 + p.da.size) c7).ownBlock ≠ some G from fun e => (LC.out G e).elim NG.out (fun h => by have := HC.out.1; omega))
  have NQ7 := Lib.hid (show (Value.slice a7 (0 + p.da.size) c7).ownBlock ≠ some Q from fun e => (LC.out Q e).elim NQ.out (fun h => by have := HD.out.1; omega))
  clear h7 g7 k7 lG lQ
  rw [HNN.out] at T7 LC NG7 NQ7
  rw [HNN.out]
  go_wp2_with (refine wpList_set rfl (.store 73 (.tmp 45) (.tmp 43)) rfl G 1 2 (.slice a7 N c7) _ (knC x (.slice a7 N c7)) C7.out (by omega) (fun j hj => by match j, hj with | 0, _ => rfl | 1, _ => rfl) (store_bytes rfl rfl rfl (C7.out.cell (j := 1) (by omega)) (C7.out.frozen (j := 1) (by omega))) ?_; intro w8 C8 V8 S8; have D8 := Lib.hid (D7.out.but V8.out (fun e => HGQ.out e.symm)); have T8 := Lib.hid (own_but T7.out V8.out NG7.out); have U8 := Lib.hid (U7.out.trans (Buts.of_but V8.out (.inl rfl))); have g8 : w8.cell? ⟨G, 1, none⟩ = some (.slice a7 N c7) := C8.out.cell (j := 1) (by omega))
  go_end0
  exact ⟨rfl, ⟨a7, N, c7, C8.out, by rw [EE.out.1]; exact T8.out, by rw [EE.out.1]; exact HT2.out.symm, LC.out⟩, by rw [EE.out.2]; exact D8.out, U8.out⟩
set_option maxHeartbeats 8000000 in
theorem padd_o0s (n0 G Q : Nat) (x : Int) (a0 : Option Addr) (m c0 : Nat) (tx : List UInt8) (mi : Int) (p : Pkt) (ho : Pk.Ok p) (hm : tx.length = m) (hml : m ≤ 16384) (hGQ : G ≠ Q) (w : World) (hn0 : n0 ≤ w.heap.size) (hnG : (Value.slice a0 m c0).ownBlock ≠ some G) (hnQ : (Value.slice a0 m c0).ownBlock ≠ some Q)
    (C : Cel w G 2 (knC x (.slice a0 m c0))) (D : Cel w Q 4 (pcC false ⟨#[]⟩ mi false)) (R : Txt w n0 (.slice a0 m c0) tx) (ht : 0 < m) (hf : Pk.fstF p = false) (hmi : mi ≠ 0) : Calls Try.prog 44 #[.pointer (some ⟨G, 0, none⟩), pkVal p, .pointer (some ⟨Q, 0, none⟩)] w (AddP n0 G Q x (.slice a0 m c0) tx mi p w) := by
  have ME := Lib.hid (fun w => meaning_any p ho.2.1 w)
  have HGQ := Lib.hid hGQ
  have HC := Lib.hid C
  have HD := Lib.hid D
  have HR := Lib.hid R
  have HM := Lib.hid hm
  have HN := Lib.hid hn0
  have NG := Lib.hid hnG
  have NQ := Lib.hid hnQ
  have dsz : p.da.size ≤ 1024 := ho.2.2.2.2
  have dpos : 1 ≤ p.da.size := ho.2.2.2.1
  rw [hf] at ME
  obtain ⟨lf, hlf⟩ : ∃ l, Pk.lstF p = l := ⟨_, rfl⟩
  rw [hlf] at ME
  have tn : tx ≠ [] := fun e => by subst e; simp at hm; omega
  have GG := Lib.hid (gup_yes (tx := tx) (mi := mi) (p := p) tn (.inr hmi))
  have EE := Lib.hid (add_stop (tx := tx) (mi := mi) (p := p) hf GG.out.2)
  rw [GG.out.1] at EE
  obtain ⟨i0, hi, hz0, hz1, hz2⟩ := info_parts info_byte
  have z1 : (mi != 0) = true := by simp; exact hmi
  clear hm hGQ hn0 hnG hnQ C D R hf ho hlf hmi tn
  go_enter Try.func44, Try.ntmps44
  go_wp2_with (refine wpList_new rfl (.box 23 (.tmp 1)) rfl (some 4) rfl #[.bool p.cmd, .int .i64 p.ap, .int .i64 p.fl, .int .i64 p.ct, .string p.da] 23 (fun X => .pointer (some ⟨X, 0, none⟩)) 5 (pkCel p) (pk_cells p) (box_pk rfl rfl) ?_; intro X w1 HX Sw1 CX1 Bw1; have x12 : w1.cell? ⟨X, 2, none⟩ = some (.int .i64 p.fl) := CX1.out.cell (j := 2) (by omega); have C1 := Lib.hid (HC.out.below Bw1.out); have D1 := Lib.hid (HD.out.below Bw1.out); have R1 := Lib.hid (own_below HR.out Bw1.out); have d12 : w1.cell? ⟨Q, 2, none⟩ = some (.int .i64 mi) := D1.out.cell (j := 2) (by omega); have XN := Lib.hid (show X ≠ G ∧ X ≠ Q by have := HX.out; have := HC.out.1; have := HD.out.1; omega); have U1 := Lib.hid (Buts.of_below (S := fun b => b = G ∨ b = Q ∨ (Value.slice a0 m c0).ownBlock = some b) Bw1.out); have N1 := Lib.hid (Nat.le_trans HN.out Bw1.out.size))
  (with_reducible refine (ME.out _).mono ?_)
  rintro e w' ⟨rfl, rfl⟩
  go_wp2_with fail
  (with_reducible refine (kopen_any G x a0 m c0 true (decide_eq_true ht) _ C1.out).mono ?_)
  rintro e w' ⟨rfl, rfl⟩
  go_wp2_with fail
  (with_reducible refine (giveUp_any G Q x _ false ⟨#[]⟩ mi false a0 m c0 rfl HGQ.out _ C1.out D1.out).mono ?_)
  rintro e w2 ⟨rfl, c2', d2', u2'⟩
  have C2 := Lib.hid c2'
  have D2 := Lib.hid d2'
  have CX2 := Lib.hid (CX1.out.of_block (u2'.block X CX1.out.1 (fun h => by have := XN.out; omega)))
  have U2 := Lib.hid (U1.out.trans (u2'.mono (fun b hb => by rcases hb with h | h <;> simp [h])))
  have N2 := Lib.hid (Nat.le_trans N1.out u2'.size)
  clear c2' d2' u2'
  go_wp2_with fail
  (with_reducible refine (kopen_any G x none 0 0 false rfl _ C2.out).mono ?_)
  rintro e w' ⟨rfl, rfl⟩
  go_wp2_with fail
  go_end0
  exact ⟨rfl, ⟨none, 0, 0, C2.out, by rw [EE.out.1]; exact Txt.nil _ _, by rw [EE.out.1]; rfl, fun k hk => by cases hk⟩, by rw [EE.out.2]; exact D2.out, U2.out⟩
set_option maxHeartbeats 8000000 in
theorem padd_o0g (n0 G Q : Nat) (x : Int) (a0 : Option Addr) (m c0 : Nat) (tx : List UInt8) (mi : Int) (p : Pkt) (ho : Pk.Ok p) (hm : tx.length = m) (hml : m ≤ 16384) (hGQ : G ≠ Q) (w : World) (hn0 : n0 ≤ w.heap.size) (hnG : (Value.slice a0 m c0).ownBlock ≠ some G) (hnQ : (Value.slice a0 m c0).ownBlock ≠ some Q)
    (C : Cel w G 2 (knC x (.slice a0 m c0))) (D : Cel w Q 4 (pcC false ⟨#[]⟩ mi false)) (R : Txt w n0 (.slice a0 m c0) tx) (ht : 0 < m) (hf : Pk.fstF p = false) (hmi : mi = 0) (hg : 16384 < m + p.da.size) : Calls Try.prog 44 #[.pointer (some ⟨G, 0, none⟩), pkVal p, .pointer (some ⟨Q, 0, none⟩)] w (AddP n0 G Q x (.slice a0 m c0) tx mi p w) := by
  have ME := Lib.hid (fun w => meaning_any p ho.2.1 w)
  have HGQ := Lib.hid hGQ
  have HC := Lib.hid C
  have HD := Lib.hid D
  have HR := Lib.hid R
  have HM := Lib.hid hm
  have HN := Lib.hid hn0
  have NG := Lib.hid hnG
  have NQ := Lib.hid hnQ
  have dsz : p.da.size ≤ 1024 := ho.2.2.2.2
  have dpos : 1 ≤ p.da.size := ho.2.2.2.1
  rw [hf] at ME
  obtain ⟨lf, hlf⟩ : ∃ l, Pk.lstF p = l := ⟨_, rfl⟩
  rw [hlf] at ME
  have tn : tx ≠ [] := fun e => by subst e; simp at hm; omega
  have GG := Lib.hid (gup_no (tx := tx) (mi := mi) (p := p) (.inr ⟨hf, hmi⟩))
  have EE := Lib.hid (add_long (tx := tx) (t2 := (tx ++ p.da.data.toList)) (mi := mi) (p := p) (fun h => by rw [GG.out.2] at h; exact absurd h.2 tn) (by rw [GG.out.2]) (by rw [List.length_append, hm, ls]; omega))
  clear GG
  obtain ⟨i0, hi, hz0, hz1, hz2⟩ := info_parts info_byte
  have z1 : (mi != 0) = false := by simp; exact hmi
  obtain ⟨N, hN⟩ : ∃ N, m + p.da.size = N := ⟨_, rfl⟩
  have NB : N ≤ 1000000 := by omega
  have y1 : decide ((16384 : Int) < (N : Int)) = true := by simp; omega
  have y1n : decide (16384 < N) = true := by simp; omega
  have HNN := Lib.hid hN
  have HT2 := Lib.hid (show (tx ++ p.da.data.toList).length = N by rw [List.length_append, hm, ls]; exact hN)
  have T2N := Lib.hid (show (tx ++ p.da.data.toList) ≠ [] from fun e => by have h := HT2.out; rw [e] at h; simp at h; omega)
  clear hm hGQ hn0 hnG hnQ C D R hf ho hlf hmi tn hN hg
  go_enter Try.func44, Try.ntmps44
  go_wp2_with (refine wpList_new rfl (.box 23 (.tmp 1)) rfl (some 4) rfl #[.bool p.cmd, .int .i64 p.ap, .int .i64 p.fl, .int .i64 p.ct, .string p.da] 23 (fun X => .pointer (some ⟨X, 0, none⟩)) 5 (pkCel p) (pk_cells p) (box_pk rfl rfl) ?_; intro X w1 HX Sw1 CX1 Bw1; have x12 : w1.cell? ⟨X, 2, none⟩ = some (.int .i64 p.fl) := CX1.out.cell (j := 2) (by omega); have C1 := Lib.hid (HC.out.below Bw1.out); have D1 := Lib.hid (HD.out.below Bw1.out); have R1 := Lib.hid (own_below HR.out Bw1.out); have d12 : w1.cell? ⟨Q, 2, none⟩ = some (.int .i64 mi) := D1.out.cell (j := 2) (by omega); have XN := Lib.hid (show X ≠ G ∧ X ≠ Q by have := HX.out; have := HC.out.1; have := HD.out.1; omega); have U1 := Lib.hid (Buts.of_below (S := fun b => b = G ∨ b = Q ∨ (Value.slice a0 m c0).ownBlock = some b) Bw1.out); have N1 := Lib.hid (Nat.le_trans HN.out Bw1.out.size))
  (with_reducible refine (ME.out _).mono ?_)
  rintro e w' ⟨rfl, rfl⟩
  go_wp2_with fail
  (with_reducible refine (kopen_any G x a0 m c0 true (decide_eq_true ht) _ C1.out).mono ?_)
  rintro e w' ⟨rfl, rfl⟩
  go_wp2_with fail
  (with_reducible refine (kopen_any G x a0 m c0 true (decide_eq_true ht) _ C1.out).mono ?_)
  rintro e w' ⟨rfl, rfl⟩
  go_wp2_with fail
  go_upto_region 5 with fail
  refine apRegion G X m c0 n0 a0 ((tx).map fun b => Value.int .u8 b.toNat) p.da i0 hi hz0 hz1 hz2 (by have := HNN.out; omega) (C1.out.cell (j := 1) (by omega)) (CX1.out.cell (j := 4) (by omega)) (show w1.ownsRow n0 5 1 _ m _ from by have h := R1.out; unfold Txt at h; rwa [HM.out] at h) N1.out (by kernel_rfl) rfl rfl rfl rfl rfl rfl rfl rfl rfl rfl rfl ?_
  rintro v7 w7 ⟨h7, g7, k7⟩
  obtain ⟨a7, c7, rfl⟩ := own_is h7
  simp only [Act.put, List.setIfInBounds_toArray, List.set_cons_succ, List.set_cons_zero, List.drop_succ_cons, List.drop_zero]
  have T7 := Lib.hid (txt_app (tx := tx) (n := m) HM.out h7)
  have lG : G < w1.heap.size := C1.out.1
  have lQ : Q < w1.heap.size := D1.out.1
  have C7 := Lib.hid (C1.out.of_block (g7.block G lG (fun e => NG.out e.symm)))
  have D7 := Lib.hid (D1.out.of_block (g7.block Q lQ (fun e => NQ.out e.symm)))
  have U7 := Lib.hid ((U1.out.trans (Buts.of_below (S := fun b => b = G ∨ b = Q ∨ (Value.slice a0 m c0).ownBlock = some b) (Below.refl w1.heap.size w1).drew)).trans (Buts.of_grown (w := w1.drew) (S := fun b => b = G ∨ b = Q ∨ (Value.slice a0 m c0).ownBlock = some b) g7 (fun k hk => .inr (.inr hk))))
  have LC := Lib.hid (show ∀ k, (Value.slice a7 (m + p.da.size) c7).ownBlock = some k → (Value.slice a0 m c0).ownBlock = some k ∨ w.heap.size ≤ k from fun k hk => by
    rcases k7 with g | g
    · exact .inl (g.symm.trans hk)
    · have h3 : some k = some w1.heap.size := hk.symm.trans g
      simp only [Option.some.injEq] at h3
      have := U1.out.size
      exact .inr (by omega))
  have NG7 := Lib.hid (show (Value.slice a7 (m + p.da.size) c7).ownBlock ≠ some G from fun e => (LC.out G e).elim NG.out (fun h => by have := HC.out.1; omega))
  have NQ7 := Lib.hid (show (Value.slice a7 (m + p.da.size) c7).ownBlock ≠ some Q from fun e => (LC.out Q e).elim NQ.out (fun h => by have := HD.out.1; omega))
  clear h7 g7 k7 lG lQ
  rw [HNN.out] at T7 LC NG7 NQ7
  rw [HNN.out]
  go_wp2_with (refine wpList_set rfl (.store 73 (.tmp 45) (.tmp 43)) rfl G 1 2 (.slice a7 N c7) _ (knC x (.slice a7 N c7)) C7.out (by omega) (fun j hj => by match j, hj with | 0, _ => rfl | 1, _ => rfl) (store_bytes rfl rfl rfl (C7.out.cell (j := 1) (by omega)) (C7.out.frozen (j := 1) (by omega))) ?_; intro w8 C8 V8 S8; have D8 := Lib.hid (D7.out.but V8.out (fun e => HGQ.out e.symm)); have T8 := Lib.hid (own_but T7.out V8.out NG7.out); have U8 := Lib.hid (U7.out.trans (Buts.of_but V8.out (.inl rfl))); have g8 : w8.cell? ⟨G, 1, none⟩ = some (.slice a7 N c7) := C8.out.cell (j := 1) (by omega))
  (with_reducible refine (giveUp_any G Q x _ false ⟨#[]⟩ mi false a7 N c7 rfl HGQ.out _ C8.out D8.out).mono ?_)
  rintro e w9 ⟨rfl, c9, d9, u9⟩
  have C9 := Lib.hid c9
  have D9 := Lib.hid d9
  have U9 := Lib.hid (U8.out.trans (u9.mono (fun b hb => by rcases hb with h | h <;> simp [h])))
  clear c9 d9 u9
  go_wp2_with fail
  go_end0
  exact ⟨rfl, ⟨none, 0, 0, C9.out, by rw [EE.out.1]; exact Txt.nil _ _, by rw [EE.out.1]; rfl, fun k hk => by cases hk⟩, by rw [EE.out.2]; exact D9.out, U9.out⟩
set_option maxHeartbeats 8000000 in
theorem padd_o0l (n0 G Q : Nat) (x : Int) (a0 : Option Addr) (m c0 : Nat) (tx : List UInt8) (mi : Int) (p : Pkt) (ho : Pk.Ok p) (hm : tx.length = m) (hml : m ≤ 16384) (hGQ : G ≠ Q) (w : World) (hn0 : n0 ≤ w.heap.size) (hnG : (Value.slice a0 m c0).ownBlock ≠ some G) (hnQ : (Value.slice a0 m c0).ownBlock ≠ some Q)
    (C : Cel w G 2 (knC x (.slice a0 m c0))) (D : Cel w Q 4 (pcC false ⟨#[]⟩ mi false)) (R : Txt w n0 (.slice a0 m c0) tx) (ht : 0 < m) (hf : Pk.fstF p = false) (hmi : mi = 0) (hl : Pk.lstF p = true) (hg : ¬ 16384 < m + p.da.size) : Calls Try.prog 44 #[.pointer (some ⟨G, 0, none⟩), pkVal p, .pointer (some ⟨Q, 0, none⟩)] w (AddP n0 G Q x (.slice a0 m c0) tx mi p w) := by
  have ME := Lib.hid (fun w => meaning_any p ho.2.1 w)
  have HGQ := Lib.hid hGQ
  have HC := Lib.hid C
  have HD := Lib.hid D
  have HR := Lib.hid R
  have HM := Lib.hid hm
  have HN := Lib.hid hn0
  have NG := Lib.hid hnG
  have NQ := Lib.hid hnQ
  have dsz : p.da.size ≤ 1024 := ho.2.2.2.2
  have dpos : 1 ≤ p.da.size := ho.2.2.2.1
  rw [hf] at ME
  rw [hl] at ME
  have tn : tx ≠ [] := fun e => by subst e; simp at hm; omega
  have GG := Lib.hid (gup_no (tx := tx) (mi := mi) (p := p) (.inr ⟨hf, hmi⟩))
  have EE := Lib.hid (add_last (tx := tx) (t2 := (tx ++ p.da.data.toList)) (mi := mi) (p := p) (fun h => by rw [GG.out.2] at h; exact absurd h.2 tn) (by rw [GG.out.2]) (by rw [List.length_append, hm, ls]; omega) hl)
  rw [GG.out.1] at EE
  obtain ⟨i0, hi, hz0, hz1, hz2⟩ := info_parts info_byte
  have z1 : (mi != 0) = false := by simp; exact hmi
  obtain ⟨N, hN⟩ : ∃ N, m + p.da.size = N := ⟨_, rfl⟩
  have NB : N ≤ 1000000 := by omega
  have y1 : decide ((16384 : Int) < (N : Int)) = false := by simp; omega
  have y1n : decide (16384 < N) = false := by simp; omega
  have HNN := Lib.hid hN
  have HT2 := Lib.hid (show (tx ++ p.da.data.toList).length = N by rw [List.length_append, hm, ls]; exact hN)
  have T2N := Lib.hid (show (tx ++ p.da.data.toList) ≠ [] from fun e => by have h := HT2.out; rw [e] at h; simp at h; omega)
  clear hm hGQ hn0 hnG hnQ C D R hf ho hl hmi tn hN hg
  go_enter Try.func44, Try.ntmps44
  go_wp2_with (refine wpList_new rfl (.box 23 (.tmp 1)) rfl (some 4) rfl #[.bool p.cmd, .int .i64 p.ap, .int .i64 p.fl, .int .i64 p.ct, .string p.da] 23 (fun X => .pointer (some ⟨X, 0, none⟩)) 5 (pkCel p) (pk_cells p) (box_pk rfl rfl) ?_; intro X w1 HX Sw1 CX1 Bw1; have x12 : w1.cell? ⟨X, 2, none⟩ = some (.int .i64 p.fl) := CX1.out.cell (j := 2) (by omega); have C1 := Lib.hid (HC.out.below Bw1.out); have D1 := Lib.hid (HD.out.below Bw1.out); have R1 := Lib.hid (own_below HR.out Bw1.out); have d12 : w1.cell? ⟨Q, 2, none⟩ = some (.int .i64 mi) := D1.out.cell (j := 2) (by omega); have XN := Lib.hid (show X ≠ G ∧ X ≠ Q by have := HX.out; have := HC.out.1; have := HD.out.1; omega); have U1 := Lib.hid (Buts.of_below (S := fun b => b = G ∨ b = Q ∨ (Value.slice a0 m c0).ownBlock = some b) Bw1.out); have N1 := Lib.hid (Nat.le_trans HN.out Bw1.out.size))
  (with_reducible refine (ME.out _).mono ?_)
  rintro e w' ⟨rfl, rfl⟩
  go_wp2_with fail
  (with_reducible refine (kopen_any G x a0 m c0 true (decide_eq_true ht) _ C1.out).mono ?_)
  rintro e w' ⟨rfl, rfl⟩
  go_wp2_with fail
  (with_reducible refine (kopen_any G x a0 m c0 true (decide_eq_true ht) _ C1.out).mono ?_)
  rintro e w' ⟨rfl, rfl⟩
  go_wp2_with fail
  go_upto_region 5 with fail
  refine apRegion G X m c0 n0 a0 ((tx).map fun b => Value.int .u8 b.toNat) p.da i0 hi hz0 hz1 hz2 (by have := HNN.out; omega) (C1.out.cell (j := 1) (by omega)) (CX1.out.cell (j := 4) (by omega)) (show w1.ownsRow n0 5 1 _ m _ from by have h := R1.out; unfold Txt at h; rwa [HM.out] at h) N1.out (by kernel_rfl) rfl rfl rfl rfl rfl rfl rfl rfl rfl rfl rfl ?_
  rintro v7 w7 ⟨h7, g7, k7⟩
  obtain ⟨a7, c7, rfl⟩ := own_is h7
  simp only [Act.put, List.setIfInBounds_toArray, List.set_cons_succ, List.set_cons_zero, List.drop_succ_cons, List.drop_zero]
  have T7 := Lib.hid (txt_app (tx := tx) (n := m) HM.out h7)
  have lG : G < w1.heap.size := C1.out.1
  have lQ : Q < w1.heap.size := D1.out.1
  have C7 := Lib.hid (C1.out.of_block (g7.block G lG (fun e => NG.out e.symm)))
  have D7 := Lib.hid (D1.out.of_block (g7.block Q lQ (fun e => NQ.out e.symm)))
  have U7 := Lib.hid ((U1.out.trans (Buts.of_below (S := fun b => b = G ∨ b = Q ∨ (Value.slice a0 m c0).ownBlock = some b) (Below.refl w1.heap.size w1).drew)).trans (Buts.of_grown (w := w1.drew) (S := fun b => b = G ∨ b = Q ∨ (Value.slice a0 m c0).ownBlock = some b) g7 (fun k hk => .inr (.inr hk))))
  have LC := Lib.hid (show ∀ k, (Value.slice a7 (m + p.da.size) c7).ownBlock = some k → (Value.slice a0 m c0).ownBlock = some k ∨ w.heap.size ≤ k from fun k hk => by
    rcases k7 with g | g
    · exact .inl (g.symm.trans hk)
    · have h3 : some k = some w1.heap.size := hk.symm.trans g
      simp only [Option.some.injEq] at h3
      have := U1.out.size
      exact .inr (by omega))
  have NG7 := Lib.hid (show (Value.slice a7 (m + p.da.size) c7).ownBlock ≠ some G from fun e => (LC.out G e).elim NG.out (fun h => by have := HC.out.1; omega))
  have NQ7 := Lib.hid (show (Value.slice a7 (m + p.da.size) c7).ownBlock ≠ some Q from fun e => (LC.out Q e).elim NQ.out (fun h => by have := HD.out.1; omega))
  clear h7 g7 k7 lG lQ
  rw [HNN.out] at T7 LC NG7 NQ7
  rw [HNN.out]
  go_wp2_with (first
    | (refine wpList_set rfl (.store 73 (.tmp 45) (.tmp 43)) rfl G 1 2 (.slice a7 N c7) _ (knC x (.slice a7 N c7)) C7.out (by omega) (fun j hj => by match j, hj with | 0, _ => rfl | 1, _ => rfl) (store_bytes rfl rfl rfl (C7.out.cell (j := 1) (by omega)) (C7.out.frozen (j := 1) (by omega))) ?_; intro w8 C8 V8 S8; have D8 := Lib.hid (D7.out.but V8.out (fun e => HGQ.out e.symm)); have T8 := Lib.hid (own_but T7.out V8.out NG7.out); have U8 := Lib.hid (U7.out.trans (Buts.of_but V8.out (.inl rfl))); have g8 : w8.cell? ⟨G, 1, none⟩ = some (.slice a7 N c7) := C8.out.cell (j := 1) (by omega); have CV := Lib.hid (txt_back T8.out T2N.out))
    | simp only [CV.out]
    | (refine wpList_set rfl (.store 4 (.tmp 64) (.const (.bool true))) rfl Q 0 4 (.bool true) _ (pcC true ⟨#[]⟩ mi false) D8.out (by omega) (fun j hj => by match j, hj with | 0, _ => rfl | 1, _ => rfl | 2, _ => rfl | 3, _ => rfl) (store_bool rfl rfl rfl (D8.out.cell (j := 0) (by omega)) (D8.out.frozen (j := 0) (by omega))) ?_; intro w9 D9 V9 S9; have C9 := Lib.hid (C8.out.but V9.out HGQ.out))
    | (refine wpList_set rfl (.store 9 (.tmp 66) (.tmp 62)) rfl Q 1 4 (.string (bs (tx ++ p.da.data.toList))) _ (pcC true (bs (tx ++ p.da.data.toList)) mi false) D9.out (by omega) (fun j hj => by match j, hj with | 0, _ => rfl | 1, _ => rfl | 2, _ => rfl | 3, _ => rfl) (store_str rfl rfl rfl (D9.out.cell (j := 1) (by omega)) (D9.out.frozen (j := 1) (by omega))) ?_; intro w10 D10 V10 S10; have C10 := Lib.hid (C9.out.but V10.out HGQ.out))
    | (refine wpList_set rfl (.store 73 (.tmp 69) (.const (.slice none 0 0))) rfl G 1 2 (.slice none 0 0) _ (knC x (.slice none 0 0)) C10.out (by omega) (fun j hj => by match j, hj with | 0, _ => rfl | 1, _ => rfl) (store_bytes rfl rfl rfl (C10.out.cell (j := 1) (by omega)) (C10.out.frozen (j := 1) (by omega))) ?_; intro w11 C11 V11 S11; have D11 := Lib.hid (D10.out.but V11.out (fun e => HGQ.out e.symm))))
  go_end0
  exact ⟨rfl, ⟨none, 0, 0, C11.out, by rw [EE.out.1]; exact Txt.nil _ _, by rw [EE.out.1]; rfl, fun k hk => by cases hk⟩, by rw [EE.out.2]; exact D11.out, ((U8.out.trans (Buts.of_but V9.out (.inr (.inl rfl)))).trans (Buts.of_but V10.out (.inr (.inl rfl)))).trans (Buts.of_but V11.out (.inl rfl))⟩
set_option maxHeartbeats 8000000 in
theorem padd_o0m (n0 G Q : Nat) (x : Int) (a0 : Option Addr) (m c0 : Nat) (tx : List UInt8) (mi : Int) (p : Pkt) (ho : Pk.Ok p) (hm : tx.length = m) (hml : m ≤ 16384) (hGQ : G ≠ Q) (w : World) (hn0 : n0 ≤ w.heap.size) (hnG : (Value.slice a0 m c0).ownBlock ≠ some G) (hnQ : (Value.slice a0 m c0).ownBlock ≠ some Q)
    (C : Cel w G 2 (knC x (.slice a0 m c0))) (D : Cel w Q 4 (pcC false ⟨#[]⟩ mi false)) (R : Txt w n0 (.slice a0 m c0) tx) (ht : 0 < m) (hf : Pk.fstF p = false) (hmi : mi = 0) (hl : Pk.lstF p = false) (hg : ¬ 16384 < m + p.da.size) : Calls Try.prog 44 #[.pointer (some ⟨G, 0, none⟩), pkVal p, .pointer (some ⟨Q, 0, none⟩)] w (AddP n0 G Q x (.slice a0 m c0) tx mi p w) := by
  have ME := Lib.hid (fun w => meaning_any p ho.2.1 w)
  have HGQ := Lib.hid hGQ
  have HC := Lib.hid C
  have HD := Lib.hid D
  have HR := Lib.hid R
  have HM := Lib.hid hm
  have HN := Lib.hid hn0
  have NG := Lib.hid hnG
  have NQ := Lib.hid hnQ
  have dsz : p.da.size ≤ 1024 := ho.2.2.2.2
  have dpos : 1 ≤ p.da.size := ho.2.2.2.1
  rw [hf] at ME
  rw [hl] at ME
  have tn : tx ≠ [] := fun e => by subst e; simp at hm; omega
  have GG := Lib.hid (gup_no (tx := tx) (mi := mi) (p := p) (.inr ⟨hf, hmi⟩))
  have EE := Lib.hid (add_more (tx := tx) (t2 := (tx ++ p.da.data.toList)) (mi := mi) (p := p) (fun h => by rw [GG.out.2] at h; exact absurd h.2 tn) (by rw [GG.out.2]) (by rw [List.length_append, hm, ls]; omega) hl)
  rw [GG.out.1] at EE
  obtain ⟨i0, hi, hz0, hz1, hz2⟩ := info_parts info_byte
  have z1 : (mi != 0) = false := by simp; exact hmi
  obtain ⟨N, hN⟩ : ∃ N, m + p.da.size = N := ⟨_, rfl⟩
  have NB : N ≤ 1000000 := by omega
  have y1 : decide ((16384 : Int) < (N : Int)) = false := by simp; omega
  have y1n : decide (16384 < N) = false := by simp; omega
  have HNN := Lib.hid hN
  have HT2 := Lib.hid (show (tx ++ p.da.data.toList).length = N by rw [List.length_append, hm, ls]; exact hN)
  have T2N := Lib.hid (show (tx ++ p.da.data.toList) ≠ [] from fun e => by have h := HT2.out; rw [e] at h; simp at h; omega)
  clear hm hGQ hn0 hnG hnQ C D R hf ho hl hmi tn hN hg
  go_enter Try.func44, Try.ntmps44
  go_wp2_with (refine wpList_new rfl (.box 23 (.tmp 1)) rfl (some 4) rfl #[.bool p.cmd, .int .i64 p.ap, .int .i64 p.fl, .int .i64 p.ct, .string p.da] 23 (fun X => .pointer (some ⟨X, 0, none⟩)) 5 (pkCel p) (pk_cells p) (box_pk rfl rfl) ?_; intro X w1 HX Sw1 CX1 Bw1; have x12 : w1.cell? ⟨X, 2, none⟩ = some (.int .i64 p.fl) := CX1.out.cell (j := 2) (by omega); have C1 := Lib.hid (HC.out.below Bw1.out); have D1 := Lib.hid (HD.out.below Bw1.out); have R1 := Lib.hid (own_below HR.out Bw1.out); have d12 : w1.cell? ⟨Q, 2, none⟩ = some (.int .i64 mi) := D1.out.cell (j := 2) (by omega); have XN := Lib.hid (show X ≠ G ∧ X ≠ Q by have := HX.out; have := HC.out.1; have := HD.out.1; omega); have U1 := Lib.hid (Buts.of_below (S := fun b => b = G ∨ b = Q ∨ (Value.slice a0 m c0).ownBlock = some b) Bw1.out); have N1 := Lib.hid (Nat.le_trans HN.out Bw1.out.size))
  (with_reducible refine (ME.out _).mono ?_)
  rintro e w' ⟨rfl, rfl⟩
  go_wp2_with fail
  (with_reducible refine (kopen_any G x a0 m c0 true (decide_eq_true ht) _ C1.out).mono ?_)
  rintro e w' ⟨rfl, rfl⟩
  go_wp2_with fail
  (with_reducible refine (kopen_any G x a0 m c0 true (decide_eq_true ht) _ C1.out).mono ?_)
  rintro e w' ⟨rfl, rfl⟩
  go_wp2_with fail
  go_upto_region 5 with fail
  refine apRegion G X m c0 n0 a0 ((tx).map fun b => Value.int .u8 b.toNat) p.da i0 hi hz0 hz1 hz2 (by have := HNN.out; omega) (C1.out.cell (j := 1) (by omega)) (CX1.out.cell (j := 4) (by omega)) (show w1.ownsRow n0 5 1 _ m _ from by have h := R1.out; unfold Txt at h; rwa [HM.out] at h) N1.out (by kernel_rfl) rfl rfl rfl rfl rfl rfl rfl rfl rfl rfl rfl ?_
  rintro v7 w7 ⟨h7, g7, k7⟩
  obtain ⟨a7, c7, rfl⟩ := own_is h7
  simp only [Act.put, List.setIfInBounds_toArray, List.set_cons_succ, List.set_cons_zero, List.drop_succ_cons, List.drop_zero]
  have T7 := Lib.hid (txt_app (tx := tx) (n := m) HM.out h7)
  have lG : G < w1.heap.size := C1.out.1
  have lQ : Q < w1.heap.size := D1.out.1
  have C7 := Lib.hid (C1.out.of_block (g7.block G lG (fun e => NG.out e.symm)))
  have D7 := Lib.hid (D1.out.of_block (g7.block Q lQ (fun e => NQ.out e.symm)))
  have U7 := Lib.hid ((U1.out.trans (Buts.of_below (S := fun b => b = G ∨ b = Q ∨ (Value.slice a0 m c0).ownBlock = some b) (Below.refl w1.heap.size w1).drew)).trans (Buts.of_grown (w := w1.drew) (S := fun b => b = G ∨ b = Q ∨ (Value.slice a0 m c0).ownBlock = some b) g7 (fun k hk => .inr (.inr hk))))
  have LC := Lib.hid (show ∀ k, (Value.slice a7 (m + p.da.size) c7).ownBlock = some k → (Value.slice a0 m c0).ownBlock = some k ∨ w.heap.size ≤ k from fun k hk => by
    rcases k7 with g | g
    · exact .inl (g.symm.trans hk)
    · have h3 : some k = some w1.heap.size := hk.symm.trans g
      simp only [Option.some.injEq] at h3
      have := U1.out.size
      exact .inr (by omega))
  have NG7 := Lib.hid (show (Value.slice a7 (m + p.da.size) c7).ownBlock ≠ some G from fun e => (LC.out G e).elim NG.out (fun h => by have := HC.out.1; omega))
  have NQ7 := Lib.hid (show (Value.slice a7 (m + p.da.size) c7).ownBlock ≠ some Q from fun e => (LC.out Q e).elim NQ.out (fun h => by have := HD.out.1; omega))
  clear h7 g7 k7 lG lQ
  rw [HNN.out] at T7 LC NG7 NQ7
  rw [HNN.out]
  go_wp2_with (refine wpList_set rfl (.store 73 (.tmp 45) (.tmp 43)) rfl G 1 2 (.slice a7 N c7) _ (knC x (.slice a7 N c7)) C7.out (by omega) (fun j hj => by match j, hj with | 0, _ => rfl | 1, _ => rfl) (store_bytes rfl rfl rfl (C7.out.cell (j := 1) (by omega)) (C7.out.frozen (j := 1) (by omega))) ?_; intro w8 C8 V8 S8; have D8 := Lib.hid (D7.out.but V8.out (fun e => HGQ.out e.symm)); have T8 := Lib.hid (own_but T7.out V8.out NG7.out); have U8 := Lib.hid (U7.out.trans (Buts.of_but V8.out (.inl rfl))); have g8 : w8.cell? ⟨G, 1, none⟩ = some (.slice a7 N c7) := C8.out.cell (j := 1) (by omega))
  go_end0
  exact ⟨rfl, ⟨a7, N, c7, C8.out, by rw [EE.out.1]; exact T8.out, by rw [EE.out.1]; exact HT2.out.symm, LC.out⟩, by rw [EE.out.2]; exact D8.out, U8.out⟩
theorem padd_any (n0 G Q : Nat) (x : Int) (a0 : Option Addr) (m c0 : Nat) (tx : List UInt8) (mi : Int) (p : Pkt) (ho : Pk.Ok p) (hm : tx.length = m) (hml : m ≤ 16384) (hGQ : G ≠ Q) (w : World) (hn0 : n0 ≤ w.heap.size) (hnG : (Value.slice a0 m c0).ownBlock ≠ some G) (hnQ : (Value.slice a0 m c0).ownBlock ≠ some Q)
    (C : Cel w G 2 (knC x (.slice a0 m c0))) (D : Cel w Q 4 (pcC false ⟨#[]⟩ mi false)) (R : Txt w n0 (.slice a0 m c0) tx) : Calls Try.prog 44 #[.pointer (some ⟨G, 0, none⟩), pkVal p, .pointer (some ⟨Q, 0, none⟩)] w (AddP n0 G Q x (.slice a0 m c0) tx mi p w) := by
  have dsz : p.da.size ≤ 1024 := ho.2.2.2.2
  cases hf : Pk.fstF p with
  | true =>
    by_cases ht : 0 < m
    · cases hl : Pk.lstF p with
      | true => exact padd_o1l n0 G Q x a0 m c0 tx mi p ho hm hml hGQ w hn0 hnG hnQ C D R ht hf hl
      | false => exact padd_o1m n0 G Q x a0 m c0 tx mi p ho hm hml hGQ w hn0 hnG hnQ C D R ht hf hl
    · cases hl : Pk.lstF p with
      | true => exact padd_c1l n0 G Q x a0 m c0 tx mi p ho hm hml hGQ w hn0 hnG hnQ C D R (by omega) hf hl
      | false => exact padd_c1m n0 G Q x a0 m c0 tx mi p ho hm hml hGQ w hn0 hnG hnQ C D R (by omega) hf hl
  | false =>
    by_cases ht : 0 < m
    · by_cases hmi : mi = 0
      · by_cases hg : 16384 < m + p.da.size
        · exact padd_o0g n0 G Q x a0 m c0 tx mi p ho hm hml hGQ w hn0 hnG hnQ C D R ht hf hmi hg
        · cases hl : Pk.lstF p with
          | true => exact padd_o0l n0 G Q x a0 m c0 tx mi p ho hm hml hGQ w hn0 hnG hnQ C D R ht hf hmi hl hg
          | false => exact padd_o0m n0 G Q x a0 m c0 tx mi p ho hm hml hGQ w hn0 hnG hnQ C D R ht hf hmi hl hg
      · exact padd_o0s n0 G Q x a0 m c0 tx mi p ho hm hml hGQ w hn0 hnG hnQ C D R ht hf hmi
    · exact padd_c0 n0 G Q x a0 m c0 tx mi p ho hm hml hGQ w hn0 hnG hnQ C D R (by omega) hf
end Go.Proofs.Ytphkaambodecdaa
