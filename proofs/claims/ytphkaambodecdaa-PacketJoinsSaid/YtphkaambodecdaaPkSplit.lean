/- Layer 9: lists of packets in memory; the reference's Split. -/
import Derived.Test.YtphkaambodecdaaPkStep
import Derived.Test.YtphkaambodecdaaPkJoin
import Derived.Test.YtphkaambodecdaaPkTake
import Derived.Test.YtphkaambodecdaaOwnKit
namespace Go.Proofs.Ytphkaambodecdaa
open Go.RowKit
set_option linter.unusedVariables false
set_option maxRecDepth 100000

theorem pk_cells (p : Pkt) : ∀ j, j < 5 → (#[.bool p.cmd, .int .i64 p.ap, .int .i64 p.fl, .int .i64 p.ct, .string p.da] : Array Value)[j]? = some (pkCel p j) := fun j hj => by
  match j, hj with
  | 0, _ => rfl
  | 1, _ => rfl
  | 2, _ => rfl
  | 3, _ => rfl
  | 4, _ => rfl
theorem pk_list (p : Pkt) : ∀ j, j < 5 → ([.bool p.cmd, .int .i64 p.ap, .int .i64 p.fl, .int .i64 p.ct, .string p.da] : List Value)[j]? = some (pkCel p j) := fun j hj => by
  match j, hj with
  | 0, _ => rfl
  | 1, _ => rfl
  | 2, _ => rfl
  | 3, _ => rfl
  | 4, _ => rfl
theorem pk_info : (Try.prog.info? 23).map (·.size) = some 5 := by kernel_rfl
theorem info_packet : (Try.prog.info? 23).map (fun i => (i.zero, i.size, i.bytes)) = some (some (.agg #[.bool false, .int .i64 0, .int .i64 0, .int .i64 0, .string ⟨#[]⟩]), 5, 48) := by kernel_rfl
/-- The cells of a packet; of k packets one after the other. -/
def pk5 (p : Pkt) : List Value := [.bool p.cmd, .int .i64 p.ap, .int .i64 p.fl, .int .i64 p.ct, .string p.da]
def pkL (f : Nat → Pkt) : Nat → List Value
  | 0 => []
  | k + 1 => pkL f k ++ pk5 (f k)
theorem pkL_length (f : Nat → Pkt) : ∀ k, (pkL f k).length = k * 5
  | 0 => rfl
  | k + 1 => by
    unfold pkL
    rw [List.length_append, pkL_length f k]
    show k * 5 + 5 = (k + 1) * 5
    omega
theorem pk5_cells {w : World} {B : Nat} {p : Pkt} (C : Cel w B 5 (pkCel p)) : ∀ j u, (pk5 p)[j]? = some u → w.cell? ((⟨B, 0, none⟩ : Addr).add j) = some u := fun j u hu => by
  have hj : j < 5 := (List.getElem?_eq_some_iff.1 hu).1
  rw [add_off, Nat.zero_add, C.cell hj, ← pk_list p j hj]
  exact hu
theorem pk5_one (p : Pkt) : ∀ u ∈ pk5 p, u.oneCell' = true := fun u hu => by
  simp [pk5] at hu
  rcases hu with rfl | rfl | rfl | rfl | rfl <;> rfl
/-- What Split is asked. -/
def cutOk (ap ct most : Int) (n : Nat) : Prop := (0 ≤ ap ∧ ap ≤ 2046) ∧ (0 ≤ ct ∧ ct ≤ 16383) ∧ (1 ≤ most ∧ most ≤ 1024) ∧ n ≠ 0
instance (ap ct most : Int) (n : Nat) : Decidable (cutOk ap ct most n) := by unfold cutOk; infer_instance
/-- What Split returns. -/
def SpP (cmd : Bool) (ap ct most : Int) (s : ByteArray) (w : World) (e : Ending) (w' : World) : Prop :=
  if cutOk ap ct most s.size then
    if 16384 < s.size then e = .returned (.tuple #[.slice none 0 0, .int .i64 3]) ∧ Below w.heap.size w w'
    else ∃ sa sc, e = .returned (.tuple #[.slice sa (Pk.cnt s.size most.toNat) sc, .int .i64 0]) ∧ w'.ownsRow w.heap.size 23 5 (.slice sa (Pk.cnt s.size most.toNat) sc) (Pk.cnt s.size most.toNat) (pkL (Pk.cut cmd ap ct s.data.toList most.toNat) (Pk.cnt s.size most.toNat)) ∧ Below w.heap.size w w'
  else e = .returned (.tuple #[.slice none 0 0, .int .i64 2]) ∧ Below w.heap.size w w'
theorem SpP.bad {cmd : Bool} {ap ct most : Int} {s : ByteArray} {w : World} (h : ¬ cutOk ap ct most s.size) : SpP cmd ap ct most s w (.returned (.tuple #[.slice none 0 0, .int .i64 2])) w := by
  unfold SpP
  rw [if_neg h]
  exact ⟨rfl, Below.refl _ _⟩
theorem SpP.long {cmd : Bool} {ap ct most : Int} {s : ByteArray} {w : World} (h : cutOk ap ct most s.size) (h2 : 16384 < s.size) : SpP cmd ap ct most s w (.returned (.tuple #[.slice none 0 0, .int .i64 3])) w := by
  unfold SpP
  rw [if_pos h, if_pos h2]
  exact ⟨rfl, Below.refl _ _⟩
theorem str_some {s : ByteArray} (ne : s ≠ ⟨#[]⟩) : (s == (⟨#[]⟩ : ByteArray)) = false ∧ (s.toList == (⟨#[]⟩ : ByteArray).toList) = false ∧ s.toList.isEmpty = false := by
  have e1 := beq_no ne
  have e2 : (s.toList == (⟨#[]⟩ : ByteArray).toList) = false := by rw [← beq_toListBytes, e1]
  refine ⟨e1, e2, ?_⟩
  rw [show (⟨#[]⟩ : ByteArray).toList = [] from by decide +kernel] at e2
  cases h : s.toList with
  | nil => rw [h] at e2; simp at e2
  | cons a b => rfl
set_option maxHeartbeats 1000000 in

theorem build_pk {ev : Operand → Value} {w : World} {o : Oper} {x : Operand} {cmd : Bool} {ap fl ct : Int} {da : ByteArray} (h : o.op = .buildSlice 36 1 #[(0, x)]) (hx : ev x = .agg #[.bool cmd, .int .i64 ap, .int .i64 fl, .int .i64 ct, .string da]) :
    (execOp ev o).run Try.prog w = .ok (.value (.slice (some ⟨w.heap.size, 0, none⟩) 1 1)) (w.alloc (.cells #[.bool cmd, .int .i64 ap, .int .i64 fl, .int .i64 ct, .string da] 23)) := by
  simp only [execOp, h]; go_simp
theorem own_but {w w' : World} {base e size n X : Nat} {v : Value} {xs : List Value} (h : w.ownsRow base e size v n xs) (u : But X w w') (hX : v.ownBlock ≠ some X) : w'.ownsRow base e size v n xs := own_keep h (fun k hk hl => u.rest k hl (fun e => hX (by rw [hk, e])))
theorem own_block_lt {w : World} {base e size n k : Nat} {v : Value} {xs : List Value} (h : w.ownsRow base e size v n xs) (hk : v.ownBlock = some k) : k < w.heap.size := by
  obtain ⟨_, h⟩ := h
  rcases h with ⟨rfl, _⟩ | ⟨g, c, cur, rfl, _, hb, _⟩
  · cases hk
  · cases hk
    exact (Array.getElem?_eq_some_iff.1 hb).1
set_option maxHeartbeats 8000000 in
theorem rsplit_bad (cmd : Bool) (ap ct most : Int) (s : ByteArray) (h : ¬ cutOk ap ct most s.size) (w : World) : Calls Try.prog 20 #[.bool cmd, .int .i64 ap, .int .i64 ct, .string s, .int .i64 most] w fun e w' => e = .returned (.tuple #[.slice none 0 0, .int .i64 2]) ∧ w = w' := by
  have HH := Lib.hid h
  clear h
  by_cases g0 : ap < 0
  · have t0 : decide (ap < 0) = true := decide_eq_true g0
    clear g0
    go_enter Try.func20, Try.ntmps20
    go_wp2_with fail
    go_ret2
    exact ⟨rfl, rfl⟩
  have t0 : decide (ap < 0) = false := decide_eq_false g0
  by_cases g1 : 2046 < ap
  · have t1 : decide (2046 < ap) = true := decide_eq_true g1
    clear g0 g1
    go_enter Try.func20, Try.ntmps20
    go_wp2_with fail
    go_ret2
    exact ⟨rfl, rfl⟩
  have t1 : decide (2046 < ap) = false := decide_eq_false g1
  by_cases g2 : ct < 0
  · have t2 : decide (ct < 0) = true := decide_eq_true g2
    clear g0 g1 g2
    go_enter Try.func20, Try.ntmps20
    go_wp2_with fail
    go_ret2
    exact ⟨rfl, rfl⟩
  have t2 : decide (ct < 0) = false := decide_eq_false g2
  by_cases g3 : 16383 < ct
  · have t3 : decide (16383 < ct) = true := decide_eq_true g3
    clear g0 g1 g2 g3
    go_enter Try.func20, Try.ntmps20
    go_wp2_with fail
    go_ret2
    exact ⟨rfl, rfl⟩
  have t3 : decide (16383 < ct) = false := decide_eq_false g3
  by_cases g4 : most < 1
  · have t4 : decide (most < 1) = true := decide_eq_true g4
    clear g0 g1 g2 g3 g4
    go_enter Try.func20, Try.ntmps20
    go_wp2_with fail
    go_ret2
    exact ⟨rfl, rfl⟩
  have t4 : decide (most < 1) = false := decide_eq_false g4
  by_cases g5 : 1024 < most
  · have t5 : decide (1024 < most) = true := decide_eq_true g5
    clear g0 g1 g2 g3 g4 g5
    go_enter Try.func20, Try.ntmps20
    go_wp2_with fail
    go_ret2
    exact ⟨rfl, rfl⟩
  have t5 : decide (1024 < most) = false := decide_eq_false g5
  by_cases g6 : s = ⟨#[]⟩
  · subst g6
    clear g0 g1 g2 g3 g4 g5
    go_enter Try.func20, Try.ntmps20
    go_wp2_with fail
    go_ret2
    exact ⟨rfl, rfl⟩
  exact absurd ⟨by omega, by omega, by omega, fun e => g6 (ByteArray.ext (Array.eq_empty_of_size_eq_zero e))⟩ HH.out
theorem rsplit_long (cmd : Bool) (ap : Int) (c m : Nat) (s : ByteArray) (n : Nat) (hn : s.size = n) (ha : 0 ≤ ap ∧ ap ≤ 2046) (hc : c ≤ 16383) (hm : 1 ≤ m ∧ m ≤ 1024) (n0 : 0 < n) (hl : 16384 < n) (hx : n ≤ 1000000) (w : World) : Calls Try.prog 20 #[.bool cmd, .int .i64 ap, .int .i64 (c : Nat), .string s, .int .i64 (m : Nat)] w fun e w' => e = .returned (.tuple #[.slice none 0 0, .int .i64 3]) ∧ w = w' := by
  have ne : s ≠ ⟨#[]⟩ := fun e => by subst e; exact absurd (show ((⟨#[]⟩ : ByteArray)).size = 0 from rfl) (by omega)
  obtain ⟨s1, s2, s3⟩ := str_some ne
  have t0 : decide (ap < 0) = false := decide_eq_false (by omega)
  have t1 : decide (2046 < ap) = false := decide_eq_false (by omega)
  have t2 : decide ((c : Int) < 0) = false := decide_eq_false (by omega)
  have t3 : decide (16383 < (c : Int)) = false := decide_eq_false (by omega)
  have t3n : decide (16383 < c) = false := decide_eq_false (by omega)
  have t4 : decide ((m : Int) < 1) = false := decide_eq_false (by omega)
  have t4n : decide (m < 1) = false := decide_eq_false (by omega)
  have t5 : decide (1024 < (m : Int)) = false := decide_eq_false (by omega)
  have t5n : decide (1024 < m) = false := decide_eq_false (by omega)
  have sn : s.size = n := hn
  have t6 : decide (16384 < (n : Int)) = true := decide_eq_true (by omega)
  have t6n : decide (16384 < n) = true := decide_eq_true hl
  clear ne hn ha hc hm n0 hl
  go_enter Try.func20, Try.ntmps20
  go_wp2_with fail
  go_ret2
  exact ⟨rfl, rfl⟩
set_option maxHeartbeats 16000000 in
theorem rsplit_ok (cmd : Bool) (ap : Int) (c m : Nat) (s : ByteArray) (n : Nat) (hn : s.size = n) (ha : 0 ≤ ap ∧ ap ≤ 2046) (hc : c ≤ 16383) (hm : 1 ≤ m ∧ m ≤ 1024) (n0 : 0 < n) (hl : n ≤ 16384) (w : World) : Calls Try.prog 20 #[.bool cmd, .int .i64 ap, .int .i64 (c : Nat), .string s, .int .i64 (m : Nat)] w fun e w' => ∃ sa sc, e = .returned (.tuple #[.slice sa (Pk.cnt n m) sc, .int .i64 0]) ∧ w'.ownsRow w.heap.size 23 5 (.slice sa (Pk.cnt n m) sc) (Pk.cnt n m) (pkL (Pk.cut cmd ap (c : Nat) s.data.toList m) (Pk.cnt n m)) ∧ Below w.heap.size w w' := by
  have ne : s ≠ ⟨#[]⟩ := fun e => by subst e; exact absurd (show ((⟨#[]⟩ : ByteArray)).size = 0 from rfl) (by omega)
  obtain ⟨s1, s2, s3⟩ := str_some ne
  have t0 : decide (ap < 0) = false := decide_eq_false (by omega)
  have t1 : decide (2046 < ap) = false := decide_eq_false (by omega)
  have t2 : decide ((c : Int) < 0) = false := decide_eq_false (by omega)
  have t3 : decide (16383 < (c : Int)) = false := decide_eq_false (by omega)
  have t3n : decide (16383 < c) = false := decide_eq_false (by omega)
  have t4 : decide ((m : Int) < 1) = false := decide_eq_false (by omega)
  have t4n : decide (m < 1) = false := decide_eq_false (by omega)
  have t5 : decide (1024 < (m : Int)) = false := decide_eq_false (by omega)
  have t5n : decide (1024 < m) = false := decide_eq_false (by omega)
  have sn : s.size = n := hn
  have t6 : decide (16384 < (n : Int)) = false := decide_eq_false (by omega)
  have t6n : decide (16384 < n) = false := decide_eq_false (by omega)
  obtain ⟨L, hL⟩ : ∃ L, s.data.toList = L := ⟨_, rfl⟩
  have LN : L.length = n := by rw [← hL, ls, hn]
  obtain ⟨K, hK⟩ : ∃ K, Pk.cnt n m = K := ⟨_, rfl⟩
  have KL := Lib.hid (fun k => show k < K ↔ k * m < n by rw [← hK]; exact Pk.cnt_lt hm.1)
  have KB : K ≤ 16384 := by
    apply Nat.le_of_not_lt
    intro h
    have h1 := (KL.out 16384).1 h
    have h2 : 16384 ≤ 16384 * m := Nat.le_mul_of_pos_right _ hm.1
    omega
  have DA := Lib.hid (fun p q k (hp : k * m = p) (hq : min (p + m) n = q) => show s.extract p q = ⟨((L.drop (k * m)).take m).toArray⟩ from by
    rw [hp]
    apply ByteArray.ext
    apply Array.toList_inj.1
    simp only [ByteArray.data_extract, Array.toList_extract, List.extract_eq_take_drop, hL]
    by_cases g : p + m ≤ n
    · rw [show q - p = m by omega]
    · rw [List.take_of_length_le (i := m) (by rw [List.length_drop, LN]; omega), List.take_of_length_le (by rw [List.length_drop, LN]; omega)])
  have FL := Lib.hid (fun k => show (Pk.cut cmd ap (c : Nat) L m k).fl = (if k = 0 then (1 : Int) else 0) + (if n ≤ (k + 1) * m then 2 else 0) by unfold Pk.cut; rw [LN])
  have CT := Lib.hid (fun k => show (Pk.cut cmd ap (c : Nat) L m k).ct = ((c : Nat) + (k : Nat) : Int) % 16384 from rfl)
  have DD := Lib.hid (fun k => show (Pk.cut cmd ap (c : Nat) L m k).da = ⟨((L.drop (k * m)).take m).toArray⟩ from rfl)
  have EE := Lib.hid (fun k => show (Pk.cut cmd ap (c : Nat) L m k) = ⟨cmd, ap, (Pk.cut cmd ap (c : Nat) L m k).fl, (Pk.cut cmd ap (c : Nat) L m k).ct, (Pk.cut cmd ap (c : Nat) L m k).da⟩ from rfl)
  obtain ⟨f, hf⟩ : ∃ f, Pk.cut cmd ap (c : Nat) L m = f := ⟨_, rfl⟩
  rw [hf] at FL CT DD EE
  rw [hL, hK, hf]
  obtain ⟨j0, hj0, hy0, hy1, hy2⟩ := info_parts info_packet
  have m1 : m ≤ 1024 := hm.2
  have m0 : 1 ≤ m := hm.1
  clear ne hn ha n0 hL hK hf LN
  go_enter Try.func20, Try.ntmps20
  go_wp2_with fail
  go_loopw [12, 13] (fun v i wr => ∃ (k p : Nat) (sa : Option Addr) (sc : Nat), k ≤ K ∧ k * m = p ∧ i = .int .i64 p ∧ v = .slice sa k sc ∧ wr.ownsRow w.heap.size 23 5 (.slice sa k sc) k (pkL f k) ∧ Below w.heap.size w wr) (fun _ i _ => 20000 - (intOf i).toNat)
  case atStart => exact ⟨0, 0, none, 0, Nat.zero_le _, Nat.zero_mul _, rfl, rfl, ⟨rfl, .inl ⟨rfl, rfl⟩⟩, Below.refl _ _⟩
  case round =>
    obtain ⟨k, p, sa, sc, hkK, hpk, rfl, rfl, hown, hB⟩ := hrel
    by_cases hlt : p < n
    · have r1 : decide ((p : Int) < (n : Int)) = true := by simp; omega
      have r1n : decide (p < n) = true := decide_eq_true hlt
      obtain ⟨p2, hp2⟩ : ∃ p2, p + m = p2 := ⟨_, rfl⟩
      obtain ⟨q, hq⟩ : ∃ q, min p2 n = q := ⟨_, rfl⟩
      have a1 : (p : Int) + (m : Int) = (p2 : Int) := by omega
      have a2 : min (p2 : Int) (n : Int) = (q : Int) := by omega
      have hp3 : (k + 1) * m = p2 := by rw [Nat.succ_mul]; omega
      have DAk := DA.out p q k hpk (by rw [hp2]; exact hq)
      obtain ⟨da, hda⟩ : ∃ d, s.extract p q = d := ⟨_, rfl⟩
      rw [hda] at DAk
      have dsz : da.size ≤ 1024 := by rw [← hda, ByteArray.size_extract]; omega
      have k0 : (p = 0 ↔ k = 0) := by
        constructor
        · intro h
          apply Nat.eq_zero_of_not_pos
          intro h1
          have : 1 * 1 ≤ k * m := Nat.mul_le_mul h1 hm.1
          omega
        · intro h; rw [← hpk, h, Nat.zero_mul]
      have hkK1 : k < K := (KL.out k).2 (by omega)
      have i1 : (c : Int) + (k : Int) = ((c + k : Nat) : Int) := by omega
      obtain ⟨ck, hck⟩ : ∃ x, c + k = x := ⟨_, rfl⟩
      obtain ⟨cr, hcr⟩ : ∃ x, ck % 16384 = x := ⟨_, rfl⟩
      have i2 : (c : Int) + (k : Int) = (ck : Int) := by omega
      have i3 : (ck : Int) % 16384 = (cr : Int) := by omega
      have i4 : (ck : Int).tmod 16384 = (cr : Int) := by rw [Int.tmod_eq_emod_of_nonneg (by omega)]; omega
      have ckb : ck ≤ 100000 := by omega
      have CTk := Lib.hid (show (f k).ct = (cr : Nat) by rw [CT.out k]; omega)
      have DDk := Lib.hid (show (f k).da = da by rw [DD.out k, ← DAk])
      have FLk := Lib.hid (FL.out k)
      have EEk := Lib.hid (EE.out k)
      have SM := Lib.hid (show ∀ w, (Instr.slice 9 (.string s) (some (.int .i64 (p : Nat))) (some (.int .i64 (q : Nat))) none).run Try.prog w = .ok (.string da) w from fun w => by
        rw [run_slice_string (P := Try.prog) (w := w) 9 s .i64 .i64 (p : Nat) (q : Nat) Try.underlying9 (by omega) (by omega) (by omega)]
        show Result.ok (Value.string (s.extract ((p : Int)).toNat ((q : Int)).toNat)) w = _
        rw [Int.toNat_natCast, Int.toNat_natCast, hda])
      obtain ⟨wr1, hwr1⟩ : ∃ x, x = wr := ⟨_, rfl⟩
      have HOWN := Lib.hid hown
      have HB := Lib.hid hB
      have HP := Lib.hid (And.intro hp3 (And.intro hkK1 hq))
      have K0 := Lib.hid k0
      have HC := Lib.hid hck
      clear hown hB DAk hda hp3 hkK hpk hkK1 hck hcr i1 hwr1 k0
      by_cases z0 : p = 0
      · have y1 : ((p : Int) == 0) = true := by simp; omega
        have y1n : (p == 0) = true := by simp; omega
        have F0 := Lib.hid (show (f k).fl = 1 + (if n ≤ p2 then 2 else 0) by rw [FLk.out, if_pos (K0.out.1 z0), HP.out.1])
        clear z0
        by_cases z1 : n ≤ p2
        · have y2 : decide ((n : Int) ≤ (p2 : Int)) = true := by simp; omega
          have y2n : decide (n ≤ p2) = true := decide_eq_true z1
          have FK := Lib.hid (show f k = ⟨cmd, ap, 3, (cr : Nat), da⟩ by rw [EEk.out, F0.out, if_pos z1, CTk.out, DDk.out]; rfl)
          clear z1
          go_wp2_with (first
            | (refine wpList_new rfl (.alloc 23) rfl (some 14) rfl #[.bool false, .int .i64 0, .int .i64 0, .int .i64 0, .string ⟨#[]⟩] 23 (fun X => .pointer (some ⟨X, 0, none⟩)) 5 (pkCel pk0) (pk_cells pk0) (alloc_pk rfl) ?_; intro G w4 HG Sw4 CG Bw4; have GB := Lib.hid (show w.heap.size ≤ G by have := HG.out; have := HB.out.size; omega); have GN := Lib.hid (show (Value.slice sa k sc).ownBlock ≠ some G from fun e => by have := own_block_lt HOWN.out e; have := HG.out; omega))
            | (refine wpList_setAll rfl 23 (.tmp 14) (.tmp 67) rfl G 5 [.bool cmd, .int .i64 ap, .int .i64 0, .int .i64 (cr : Nat), .string da] _ (pkCel ⟨cmd, ap, 0, (cr : Nat), da⟩) CG.out rfl (pk_list ⟨cmd, ap, 0, (cr : Nat), da⟩) rfl rfl pk_info (by simp [Value.oneCell']) ?_; intro w5 C5 U5 S5; have c52 : w5.cell? ⟨G, 2, none⟩ = some (.int .i64 0) := C5.out.cell (j := 2) (by omega))
            | (refine wpList_set rfl (.store 3 (.tmp 73) (.tmp 72)) rfl G 2 5 (.int .i64 1) _ (pkCel ⟨cmd, ap, 1, (cr : Nat), da⟩) C5.out (by omega) (fun j hj => by match j, hj with | 0, _ => rfl | 1, _ => rfl | 2, _ => rfl | 3, _ => rfl | 4, _ => rfl) (store_int rfl rfl rfl (C5.out.cell (j := 2) (by omega)) (C5.out.frozen (j := 2) (by omega))) ?_; intro w6 C6 U6 S6; have c62 : w6.cell? ⟨G, 2, none⟩ = some (.int .i64 1) := C6.out.cell (j := 2) (by omega))
            | (refine wpList_set rfl (.store 3 (.tmp 83) (.tmp 82)) rfl G 2 5 (.int .i64 3) _ (pkCel ⟨cmd, ap, 3, (cr : Nat), da⟩) C6.out (by omega) (fun j hj => by match j, hj with | 0, _ => rfl | 1, _ => rfl | 2, _ => rfl | 3, _ => rfl | 4, _ => rfl) (store_int rfl rfl rfl (C6.out.cell (j := 2) (by omega)) (C6.out.frozen (j := 2) (by omega))) ?_; intro w7 C7 U7 S7; have c72 : w7.cell? ⟨G, 2, none⟩ = some (.int .i64 3) := C7.out.cell (j := 2) (by omega))
            | (refine wpList_getAll rfl 23 (.tmp 14) rfl G 5 [.bool cmd, .int .i64 ap, .int .i64 3, .int .i64 (cr : Nat), .string da] _ _ C7.out rfl (pk_list ⟨cmd, ap, 3, (cr : Nat), da⟩) rfl Try.underlying23 rfl pk_info ?_)
            | (refine wpList_new rfl (.buildSlice 36 1 #[(0, .tmp 85)]) rfl (some 86) rfl #[.bool cmd, .int .i64 ap, .int .i64 3, .int .i64 (cr : Nat), .string da] 23 (fun X => .slice (some ⟨X, 0, none⟩) 1 1) 5 (pkCel ⟨cmd, ap, 3, (cr : Nat), da⟩) (pk_cells ⟨cmd, ap, 3, (cr : Nat), da⟩) (build_pk rfl rfl) ?_; intro D w8 HD S8 C8 B8; have UU := Lib.hid (But.under (But.under (But.under (bt HB.out Bw4.out) U5.out GB.out) U6.out GB.out) U7.out GB.out); have OO := Lib.hid (own_below (own_but (own_but (own_but (own_below HOWN.out Bw4.out) U5.out (fun e => GN.out e)) U6.out (fun e => GN.out e)) U7.out (fun e => GN.out e)) B8.out); have BB := Lib.hid (bt UU.out B8.out))
            | (at_builtin; refine wpList_append_own2 rfl _ _ 36 rfl w.heap.size 23 j0 (.agg #[.bool false, .int .i64 0, .int .i64 0, .int .i64 0, .string ⟨#[]⟩]) 5 48 Try.underlying36 hj0 hy0 hy1 hy2 rfl (by decide) _ _ _ rfl OO.out ⟨D, 0, none⟩ 1 1 (pk5 ⟨cmd, ap, 3, (cr : Nat), da⟩) rfl rfl (pk5_cells C8.out) (pk5_one _) (by unfold maxLen; omega) (by omega) BB.out.size ?_; intro bv2 w9 hown9 hgrow9 hblk9; obtain ⟨b2a, b2c, rfl⟩ := own_is hown9; have HO9 := Lib.hid hown9; have HG9 := Lib.hid hgrow9; clear hown9 hgrow9 hblk9)
            | simp only [SM.out])
          go_roundw
          case rel => exact ⟨k + 1, p2, b2a, b2c, HP.out.2.1, HP.out.1, by go_num, rfl, (by
            have h := HO9.out
            rw [← FK.out] at h
            exact h), BB.out.grown HG9.out BB.out.size (fun j hj => own_block_ge OO.out hj)⟩
          case measure => simp [intOf]; omega
        
        · have y2 : decide ((n : Int) ≤ (p2 : Int)) = false := by simp; omega
          have y2n : decide (n ≤ p2) = false := decide_eq_false z1
          have FK := Lib.hid (show f k = ⟨cmd, ap, 1, (cr : Nat), da⟩ by rw [EEk.out, F0.out, if_neg z1, CTk.out, DDk.out]; rfl)
          clear z1
          go_wp2_with (first
            | (refine wpList_new rfl (.alloc 23) rfl (some 14) rfl #[.bool false, .int .i64 0, .int .i64 0, .int .i64 0, .string ⟨#[]⟩] 23 (fun X => .pointer (some ⟨X, 0, none⟩)) 5 (pkCel pk0) (pk_cells pk0) (alloc_pk rfl) ?_; intro G w4 HG Sw4 CG Bw4; have GB := Lib.hid (show w.heap.size ≤ G by have := HG.out; have := HB.out.size; omega); have GN := Lib.hid (show (Value.slice sa k sc).ownBlock ≠ some G from fun e => by have := own_block_lt HOWN.out e; have := HG.out; omega))
            | (refine wpList_setAll rfl 23 (.tmp 14) (.tmp 67) rfl G 5 [.bool cmd, .int .i64 ap, .int .i64 0, .int .i64 (cr : Nat), .string da] _ (pkCel ⟨cmd, ap, 0, (cr : Nat), da⟩) CG.out rfl (pk_list ⟨cmd, ap, 0, (cr : Nat), da⟩) rfl rfl pk_info (by simp [Value.oneCell']) ?_; intro w5 C5 U5 S5; have c52 : w5.cell? ⟨G, 2, none⟩ = some (.int .i64 0) := C5.out.cell (j := 2) (by omega))
            | (refine wpList_set rfl (.store 3 (.tmp 73) (.tmp 72)) rfl G 2 5 (.int .i64 1) _ (pkCel ⟨cmd, ap, 1, (cr : Nat), da⟩) C5.out (by omega) (fun j hj => by match j, hj with | 0, _ => rfl | 1, _ => rfl | 2, _ => rfl | 3, _ => rfl | 4, _ => rfl) (store_int rfl rfl rfl (C5.out.cell (j := 2) (by omega)) (C5.out.frozen (j := 2) (by omega))) ?_; intro w6 C6 U6 S6; have c62 : w6.cell? ⟨G, 2, none⟩ = some (.int .i64 1) := C6.out.cell (j := 2) (by omega))
            | (refine wpList_getAll rfl 23 (.tmp 14) rfl G 5 [.bool cmd, .int .i64 ap, .int .i64 1, .int .i64 (cr : Nat), .string da] _ _ C6.out rfl (pk_list ⟨cmd, ap, 1, (cr : Nat), da⟩) rfl Try.underlying23 rfl pk_info ?_)
            | (refine wpList_new rfl (.buildSlice 36 1 #[(0, .tmp 85)]) rfl (some 86) rfl #[.bool cmd, .int .i64 ap, .int .i64 1, .int .i64 (cr : Nat), .string da] 23 (fun X => .slice (some ⟨X, 0, none⟩) 1 1) 5 (pkCel ⟨cmd, ap, 1, (cr : Nat), da⟩) (pk_cells ⟨cmd, ap, 1, (cr : Nat), da⟩) (build_pk rfl rfl) ?_; intro D w8 HD S8 C8 B8; have UU := Lib.hid (But.under (But.under (bt HB.out Bw4.out) U5.out GB.out) U6.out GB.out); have OO := Lib.hid (own_below (own_but (own_but (own_below HOWN.out Bw4.out) U5.out (fun e => GN.out e)) U6.out (fun e => GN.out e)) B8.out); have BB := Lib.hid (bt UU.out B8.out))
            | (at_builtin; refine wpList_append_own2 rfl _ _ 36 rfl w.heap.size 23 j0 (.agg #[.bool false, .int .i64 0, .int .i64 0, .int .i64 0, .string ⟨#[]⟩]) 5 48 Try.underlying36 hj0 hy0 hy1 hy2 rfl (by decide) _ _ _ rfl OO.out ⟨D, 0, none⟩ 1 1 (pk5 ⟨cmd, ap, 1, (cr : Nat), da⟩) rfl rfl (pk5_cells C8.out) (pk5_one _) (by unfold maxLen; omega) (by omega) BB.out.size ?_; intro bv2 w9 hown9 hgrow9 hblk9; obtain ⟨b2a, b2c, rfl⟩ := own_is hown9; have HO9 := Lib.hid hown9; have HG9 := Lib.hid hgrow9; clear hown9 hgrow9 hblk9)
            | simp only [SM.out])
          go_roundw
          case rel => exact ⟨k + 1, p2, b2a, b2c, HP.out.2.1, HP.out.1, by go_num, rfl, (by
            have h := HO9.out
            rw [← FK.out] at h
            exact h), BB.out.grown HG9.out BB.out.size (fun j hj => own_block_ge OO.out hj)⟩
          case measure => simp [intOf]; omega
      · have y1 : ((p : Int) == 0) = false := by simp; omega
        have y1n : (p == 0) = false := by simp; omega
        have F0 := Lib.hid (show (f k).fl = 0 + (if n ≤ p2 then 2 else 0) by rw [FLk.out, if_neg (fun h => z0 (K0.out.2 h)), HP.out.1])
        clear z0
        by_cases z1 : n ≤ p2
        · have y2 : decide ((n : Int) ≤ (p2 : Int)) = true := by simp; omega
          have y2n : decide (n ≤ p2) = true := decide_eq_true z1
          have FK := Lib.hid (show f k = ⟨cmd, ap, 2, (cr : Nat), da⟩ by rw [EEk.out, F0.out, if_pos z1, CTk.out, DDk.out]; rfl)
          clear z1
          go_wp2_with (first
            | (refine wpList_new rfl (.alloc 23) rfl (some 14) rfl #[.bool false, .int .i64 0, .int .i64 0, .int .i64 0, .string ⟨#[]⟩] 23 (fun X => .pointer (some ⟨X, 0, none⟩)) 5 (pkCel pk0) (pk_cells pk0) (alloc_pk rfl) ?_; intro G w4 HG Sw4 CG Bw4; have GB := Lib.hid (show w.heap.size ≤ G by have := HG.out; have := HB.out.size; omega); have GN := Lib.hid (show (Value.slice sa k sc).ownBlock ≠ some G from fun e => by have := own_block_lt HOWN.out e; have := HG.out; omega))
            | (refine wpList_setAll rfl 23 (.tmp 14) (.tmp 67) rfl G 5 [.bool cmd, .int .i64 ap, .int .i64 0, .int .i64 (cr : Nat), .string da] _ (pkCel ⟨cmd, ap, 0, (cr : Nat), da⟩) CG.out rfl (pk_list ⟨cmd, ap, 0, (cr : Nat), da⟩) rfl rfl pk_info (by simp [Value.oneCell']) ?_; intro w5 C5 U5 S5; have c52 : w5.cell? ⟨G, 2, none⟩ = some (.int .i64 0) := C5.out.cell (j := 2) (by omega))
            | (refine wpList_set rfl (.store 3 (.tmp 83) (.tmp 82)) rfl G 2 5 (.int .i64 2) _ (pkCel ⟨cmd, ap, 2, (cr : Nat), da⟩) C5.out (by omega) (fun j hj => by match j, hj with | 0, _ => rfl | 1, _ => rfl | 2, _ => rfl | 3, _ => rfl | 4, _ => rfl) (store_int rfl rfl rfl (C5.out.cell (j := 2) (by omega)) (C5.out.frozen (j := 2) (by omega))) ?_; intro w7 C7 U7 S7; have c72 : w7.cell? ⟨G, 2, none⟩ = some (.int .i64 2) := C7.out.cell (j := 2) (by omega))
            | (refine wpList_getAll rfl 23 (.tmp 14) rfl G 5 [.bool cmd, .int .i64 ap, .int .i64 2, .int .i64 (cr : Nat), .string da] _ _ C7.out rfl (pk_list ⟨cmd, ap, 2, (cr : Nat), da⟩) rfl Try.underlying23 rfl pk_info ?_)
            | (refine wpList_new rfl (.buildSlice 36 1 #[(0, .tmp 85)]) rfl (some 86) rfl #[.bool cmd, .int .i64 ap, .int .i64 2, .int .i64 (cr : Nat), .string da] 23 (fun X => .slice (some ⟨X, 0, none⟩) 1 1) 5 (pkCel ⟨cmd, ap, 2, (cr : Nat), da⟩) (pk_cells ⟨cmd, ap, 2, (cr : Nat), da⟩) (build_pk rfl rfl) ?_; intro D w8 HD S8 C8 B8; have UU := Lib.hid (But.under (But.under (bt HB.out Bw4.out) U5.out GB.out) U7.out GB.out); have OO := Lib.hid (own_below (own_but (own_but (own_below HOWN.out Bw4.out) U5.out (fun e => GN.out e)) U7.out (fun e => GN.out e)) B8.out); have BB := Lib.hid (bt UU.out B8.out))
            | (at_builtin; refine wpList_append_own2 rfl _ _ 36 rfl w.heap.size 23 j0 (.agg #[.bool false, .int .i64 0, .int .i64 0, .int .i64 0, .string ⟨#[]⟩]) 5 48 Try.underlying36 hj0 hy0 hy1 hy2 rfl (by decide) _ _ _ rfl OO.out ⟨D, 0, none⟩ 1 1 (pk5 ⟨cmd, ap, 2, (cr : Nat), da⟩) rfl rfl (pk5_cells C8.out) (pk5_one _) (by unfold maxLen; omega) (by omega) BB.out.size ?_; intro bv2 w9 hown9 hgrow9 hblk9; obtain ⟨b2a, b2c, rfl⟩ := own_is hown9; have HO9 := Lib.hid hown9; have HG9 := Lib.hid hgrow9; clear hown9 hgrow9 hblk9)
            | simp only [SM.out])
          go_roundw
          case rel => exact ⟨k + 1, p2, b2a, b2c, HP.out.2.1, HP.out.1, by go_num, rfl, (by
            have h := HO9.out
            rw [← FK.out] at h
            exact h), BB.out.grown HG9.out BB.out.size (fun j hj => own_block_ge OO.out hj)⟩
          case measure => simp [intOf]; omega
        
        · have y2 : decide ((n : Int) ≤ (p2 : Int)) = false := by simp; omega
          have y2n : decide (n ≤ p2) = false := decide_eq_false z1
          have FK := Lib.hid (show f k = ⟨cmd, ap, 0, (cr : Nat), da⟩ by rw [EEk.out, F0.out, if_neg z1, CTk.out, DDk.out]; rfl)
          clear z1
          go_wp2_with (first
            | (refine wpList_new rfl (.alloc 23) rfl (some 14) rfl #[.bool false, .int .i64 0, .int .i64 0, .int .i64 0, .string ⟨#[]⟩] 23 (fun X => .pointer (some ⟨X, 0, none⟩)) 5 (pkCel pk0) (pk_cells pk0) (alloc_pk rfl) ?_; intro G w4 HG Sw4 CG Bw4; have GB := Lib.hid (show w.heap.size ≤ G by have := HG.out; have := HB.out.size; omega); have GN := Lib.hid (show (Value.slice sa k sc).ownBlock ≠ some G from fun e => by have := own_block_lt HOWN.out e; have := HG.out; omega))
            | (refine wpList_setAll rfl 23 (.tmp 14) (.tmp 67) rfl G 5 [.bool cmd, .int .i64 ap, .int .i64 0, .int .i64 (cr : Nat), .string da] _ (pkCel ⟨cmd, ap, 0, (cr : Nat), da⟩) CG.out rfl (pk_list ⟨cmd, ap, 0, (cr : Nat), da⟩) rfl rfl pk_info (by simp [Value.oneCell']) ?_; intro w5 C5 U5 S5; have c52 : w5.cell? ⟨G, 2, none⟩ = some (.int .i64 0) := C5.out.cell (j := 2) (by omega))
            | (refine wpList_getAll rfl 23 (.tmp 14) rfl G 5 [.bool cmd, .int .i64 ap, .int .i64 0, .int .i64 (cr : Nat), .string da] _ _ C5.out rfl (pk_list ⟨cmd, ap, 0, (cr : Nat), da⟩) rfl Try.underlying23 rfl pk_info ?_)
            | (refine wpList_new rfl (.buildSlice 36 1 #[(0, .tmp 85)]) rfl (some 86) rfl #[.bool cmd, .int .i64 ap, .int .i64 0, .int .i64 (cr : Nat), .string da] 23 (fun X => .slice (some ⟨X, 0, none⟩) 1 1) 5 (pkCel ⟨cmd, ap, 0, (cr : Nat), da⟩) (pk_cells ⟨cmd, ap, 0, (cr : Nat), da⟩) (build_pk rfl rfl) ?_; intro D w8 HD S8 C8 B8; have UU := Lib.hid (But.under (bt HB.out Bw4.out) U5.out GB.out); have OO := Lib.hid (own_below (own_but (own_below HOWN.out Bw4.out) U5.out (fun e => GN.out e)) B8.out); have BB := Lib.hid (bt UU.out B8.out))
            | (at_builtin; refine wpList_append_own2 rfl _ _ 36 rfl w.heap.size 23 j0 (.agg #[.bool false, .int .i64 0, .int .i64 0, .int .i64 0, .string ⟨#[]⟩]) 5 48 Try.underlying36 hj0 hy0 hy1 hy2 rfl (by decide) _ _ _ rfl OO.out ⟨D, 0, none⟩ 1 1 (pk5 ⟨cmd, ap, 0, (cr : Nat), da⟩) rfl rfl (pk5_cells C8.out) (pk5_one _) (by unfold maxLen; omega) (by omega) BB.out.size ?_; intro bv2 w9 hown9 hgrow9 hblk9; obtain ⟨b2a, b2c, rfl⟩ := own_is hown9; have HO9 := Lib.hid hown9; have HG9 := Lib.hid hgrow9; clear hown9 hgrow9 hblk9)
            | simp only [SM.out])
          go_roundw
          case rel => exact ⟨k + 1, p2, b2a, b2c, HP.out.2.1, HP.out.1, by go_num, rfl, (by
            have h := HO9.out
            rw [← FK.out] at h
            exact h), BB.out.grown HG9.out BB.out.size (fun j hj => own_block_ge OO.out hj)⟩
          case measure => simp [intOf]; omega
    · have r1 : decide ((p : Int) < (n : Int)) = false := by simp; omega
      have r1n : decide (p < n) = false := decide_eq_false hlt
      have kK : k = K := by
        have := (KL.out k).1
        omega
      have HOWN := Lib.hid hown
      have HB := Lib.hid hB
      have HK := Lib.hid kK
      clear hown hB kK hlt hkK hpk
      go_wp2_with fail
      go_ret2
      exact ⟨sa, sc, by rw [HK.out]; rfl, by rw [← HK.out]; exact HOWN.out, HB.out⟩
end Go.Proofs.Ytphkaambodecdaa
