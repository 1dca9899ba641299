/- Mathematics of layer 9: the packets of a message, and a joiner of one APID. -/
import Derived.Test.YtphkaambodecdaaPkMath
namespace Go.Proofs.Ytphkaambodecdaa
set_option linter.unusedVariables false
namespace Pk
/-- How many packets a message of n bytes has. -/
def cnt (n most : Nat) : Nat := (n + most - 1) / most
theorem cnt_pos {n most : Nat} (hn : 1 ≤ n) (hm : 1 ≤ most) : 1 ≤ cnt n most := by
  unfold cnt
  exact (Nat.le_div_iff_mul_le hm).2 (by omega)
theorem cnt_lt {n most k : Nat} (hm : 1 ≤ most) : k < cnt n most ↔ k * most < n := by
  unfold cnt
  rw [Nat.lt_iff_add_one_le, Nat.le_div_iff_mul_le hm, Nat.succ_mul]
  omega
/-- The packet k of a message. -/
def cut (cmd : Bool) (ap ct : Int) (d : List UInt8) (most k : Nat) : Pkt :=
  ⟨cmd, ap, (if k = 0 then 1 else 0) + (if d.length ≤ (k + 1) * most then 2 else 0), (ct + k) % 16384, ⟨((d.drop (k * most)).take most).toArray⟩⟩
/-- What a joiner knows of an APID. -/
structure St where
  next : Int
  op : Option (List UInt8)
/-- A piece. -/
structure Pc where
  whole : Bool
  msg : List UInt8
  missed : Int
  broken : Bool
def mis (s : Option St) (p : Pkt) : Int := match s with
  | none => 0
  | some x => (p.ct - x.next + 16384) % 16384
def opn (s : Option St) : Option (List UInt8) := match s with
  | none => none
  | some x => x.op
def brk (s : Option St) (p : Pkt) : Bool := (opn s).isSome && (decide (mis s p ≠ 0) || (decide (p.fl = 1) || decide (p.fl = 3)))
def opn1 (s : Option St) (p : Pkt) : Option (List UInt8) := if brk s p = true then none else opn s
/-- A valid packet that is not idle is fed. -/
def feed (s : Option St) (p : Pkt) : St × Pc :=
  if p.fl = 3 then (⟨(p.ct + 1) % 16384, opn1 s p⟩, ⟨true, p.da.data.toList, mis s p, brk s p⟩)
  else if p.fl = 1 then (⟨(p.ct + 1) % 16384, some p.da.data.toList⟩, ⟨false, [], mis s p, brk s p⟩)
  else match opn1 s p with
    | none => (⟨(p.ct + 1) % 16384, none⟩, ⟨false, [], mis s p, brk s p⟩)
    | some t => if 16384 < (t ++ p.da.data.toList).length then (⟨(p.ct + 1) % 16384, none⟩, ⟨false, [], mis s p, true⟩)
      else if p.fl = 2 then (⟨(p.ct + 1) % 16384, none⟩, ⟨true, t ++ p.da.data.toList, mis s p, brk s p⟩)
      else (⟨(p.ct + 1) % 16384, some (t ++ p.da.data.toList)⟩, ⟨false, [], mis s p, brk s p⟩)
section
variable {cmd : Bool} {ap ct : Int} {d : List UInt8} {most k : Nat}
theorem cut_data : (cut cmd ap ct d most k).da.data.toList = (d.drop (k * most)).take most := by
  unfold cut
  simp
theorem cut_take : d.take (k * most) ++ (d.drop (k * most)).take most = d.take ((k + 1) * most) := by
  rw [Nat.succ_mul, List.take_add]
theorem cut_ok (ha : 0 ≤ ap ∧ ap ≤ 2047) (hm : 1 ≤ most ∧ most ≤ 1024) (hk : k * most < d.length) : Ok (cut cmd ap ct d most k) := by
  refine ⟨ha, ?_, ?_, ?_⟩
  · show 0 ≤ (if k = 0 then (1 : Int) else 0) + (if d.length ≤ (k + 1) * most then 2 else 0) ∧ (if k = 0 then (1 : Int) else 0) + (if d.length ≤ (k + 1) * most then 2 else 0) ≤ 3
    split <;> split <;> omega
  · show 0 ≤ (ct + k) % 16384 ∧ (ct + k) % 16384 ≤ 16383
    omega
  · have e : (cut cmd ap ct d most k).da.size = min most (d.length - k * most) := by
      rw [← da_len, cut_data, List.length_take, List.length_drop]
    rw [e]
    omega
/-- The state before the packet k of a message, w packets being missed since the last one that was fed; whole: all packets of this message so far were fed. -/
structure Inv (ct : Int) (d : List UInt8) (most k w : Nat) (whole : Bool) (s : Option St) : Prop where
  zero : k = 0 → whole = true
  fresh : s = none → whole = true → k = 0
  next : ∀ x, s = some x → (ct + k) % 16384 = (x.next + w) % 16384
  yes : whole = true → 0 < k → w = 0 ∧ opn s = some (d.take (k * most))
  no : (whole = false ∨ k = 0) → 0 < w ∨ opn s = none
/-- Before the first packet of a message. -/
theorem Inv.start {w : Nat} {s : Option St} (hn : ∀ x, s = some x → ct % 16384 = (x.next + w) % 16384) (ho : 0 < w ∨ opn s = none) : Inv ct d most 0 w true s :=
  ⟨fun _ => rfl, fun _ _ => rfl, fun x hx => by
    have := hn x hx
    omega, fun _ q => absurd q (by omega), fun _ => ho⟩
/-- A packet is lost. -/
theorem Inv.lose {w : Nat} {b : Bool} {s : Option St} (h : Inv ct d most k w b s) : Inv ct d most (k + 1) (w + 1) false s :=
  ⟨fun q => absurd q (by omega), fun _ q => absurd q (by simp), fun x hx => by
    have := h.next x hx
    omega, fun q => absurd q (by simp), fun _ => .inl (by omega)⟩
/-- A packet is fed. -/
theorem mis_is {w : Nat} {b : Bool} {s : Option St} (h : Inv ct d most k w b s) (hw : w < 16384) : mis s (cut cmd ap ct d most k) = if s.isNone = true then 0 else (w : Int) := by
  cases s with
  | none => rfl
  | some x =>
    have := h.next x rfl
    show ((ct + k) % 16384 - x.next + 16384) % 16384 = (w : Int)
    omega
theorem opn1_none {w : Nat} {b : Bool} {s : Option St} (h : Inv ct d most k w b s) (hw : w < 16384) (hn : 0 < w ∨ opn s = none) : opn1 s (cut cmd ap ct d most k) = none := by
  unfold opn1
  cases ho : opn s with
  | none => split <;> rfl
  | some t =>
    have w0 : 0 < w := by
      rcases hn with g | g
      · exact g
      · rw [ho] at g
        cases g
    have mi := mis_is (cmd := cmd) (ap := ap) h hw
    have sn : s.isNone = false := by
      cases s with
      | none => cases ho
      | some x => rfl
    rw [sn, if_neg (by simp)] at mi
    have : brk s (cut cmd ap ct d most k) = true := by
      unfold brk
      rw [ho, mi]
      have : decide ((w : Int) ≠ 0) = true := decide_eq_true (by omega)
      rw [this]
      rfl
    rw [if_pos this]
/-- A packet is fed. -/
theorem Inv.feed {w : Nat} {b : Bool} {s : Option St} (h : Inv ct d most k w b s) (hw : w < 16384) (hm : 1 ≤ most) (hd : d.length ≤ 16384) (hk : k * most < d.length) :
    ∃ st pc, Pk.feed s (cut cmd ap ct d most k) = (st, pc) ∧ pc.missed = (if s.isNone = true then 0 else (w : Int)) ∧ (pc.whole = true ↔ (b = true ∧ d.length ≤ (k + 1) * most)) ∧ (pc.whole = true → pc.msg = d) ∧
      ((k + 1) * most < d.length → Inv ct d most (k + 1) 0 b (some st)) ∧ (d.length ≤ (k + 1) * most → st.op = none) ∧ st.next = (ct + (k + 1 : Nat)) % 16384 := by
  have mi := mis_is (cmd := cmd) (ap := ap) h hw
  have dat := cut_data (cmd := cmd) (ap := ap) (ct := ct) (d := d) (most := most) (k := k)
  have tk := cut_take (d := d) (most := most) (k := k)
  have nx : ((cut cmd ap ct d most k).ct + 1) % 16384 = (ct + (k + 1 : Nat)) % 16384 := by
    show ((ct + k) % 16384 + 1) % 16384 = _
    omega
  have flv : (cut cmd ap ct d most k).fl = (if k = 0 then 1 else 0) + (if d.length ≤ (k + 1) * most then 2 else 0) := rfl
  have tl : d.length ≤ (k + 1) * most → d.take ((k + 1) * most) = d := fun q => List.take_of_length_le q
  by_cases w1 : b = true ∧ 0 < k
  · obtain ⟨hb, hk0⟩ := w1
    obtain ⟨rfl, ho⟩ := h.yes hb hk0
    have br : brk s (cut cmd ap ct d most k) = false := by
      have m0 : mis s (cut cmd ap ct d most k) = 0 := by rw [mi]; split <;> rfl
      have f1 : ¬ (cut cmd ap ct d most k).fl = 1 := by rw [flv, if_neg (by omega)]; split <;> omega
      have f3 : ¬ (cut cmd ap ct d most k).fl = 3 := by rw [flv, if_neg (by omega)]; split <;> omega
      unfold brk
      rw [m0, decide_eq_false f1, decide_eq_false f3]
      simp
    have o1 : opn1 s (cut cmd ap ct d most k) = some (d.take (k * most)) := by
      unfold opn1
      rw [br, if_neg (by simp), ho]
    have ll : ¬ 16384 < (d.take (k * most) ++ (cut cmd ap ct d most k).da.data.toList).length := by
      rw [dat, tk, List.length_take]
      omega
    have f1 : ¬ (cut cmd ap ct d most k).fl = 1 := by rw [flv, if_neg (by omega)]; split <;> omega
    have f3 : ¬ (cut cmd ap ct d most k).fl = 3 := by rw [flv, if_neg (by omega)]; split <;> omega
    by_cases la : d.length ≤ (k + 1) * most
    · have f2 : (cut cmd ap ct d most k).fl = 2 := by rw [flv, if_neg (by omega), if_pos la]; rfl
      refine ⟨⟨((cut cmd ap ct d most k).ct + 1) % 16384, none⟩, ⟨true, d.take (k * most) ++ (cut cmd ap ct d most k).da.data.toList, mis s (cut cmd ap ct d most k), brk s (cut cmd ap ct d most k)⟩, ?_, mi, ⟨fun _ => ⟨hb, la⟩, fun _ => rfl⟩, fun _ => ?_, fun q => by omega, fun _ => rfl, nx⟩
      · unfold Pk.feed
        rw [if_neg f3, if_neg f1, o1]
        simp only
        rw [if_neg ll, if_pos f2]
      · show d.take (k * most) ++ (cut cmd ap ct d most k).da.data.toList = d
        rw [dat, tk, tl la]
    · have f2 : ¬ (cut cmd ap ct d most k).fl = 2 := by rw [flv, if_neg (by omega), if_neg la]; omega
      refine ⟨⟨((cut cmd ap ct d most k).ct + 1) % 16384, some (d.take (k * most) ++ (cut cmd ap ct d most k).da.data.toList)⟩, ⟨false, [], mis s (cut cmd ap ct d most k), brk s (cut cmd ap ct d most k)⟩, ?_, mi, ⟨fun q => absurd q (by simp), fun q => absurd q.2 la⟩, fun q => absurd q (by simp), fun _ => ⟨fun q => absurd q (by omega), fun q => absurd q (by simp), fun x hx => ?_, fun _ _ => ⟨rfl, ?_⟩, fun q => ?_⟩, fun q => absurd q la, nx⟩
      · unfold Pk.feed
        rw [if_neg f3, if_neg f1, o1]
        simp only
        rw [if_neg ll, if_neg f2]
      · cases hx
        show _ = (((cut cmd ap ct d most k).ct + 1) % 16384 + ((0 : Nat) : Int)) % 16384
        rw [nx]
        omega
      · show some (d.take (k * most) ++ (cut cmd ap ct d most k).da.data.toList) = _
        rw [dat, tk]
      · rcases q with q | q
        · rw [hb] at q
          cases q
        · omega
  · have hn : 0 < w ∨ opn s = none := h.no (by
      cases b with
      | false => exact .inl rfl
      | true => exact .inr (by
          apply Classical.byContradiction
          intro q
          exact w1 ⟨rfl, by omega⟩))
    have o1 := opn1_none (cmd := cmd) (ap := ap) h hw hn
    by_cases k0 : k = 0
    · have hb := h.zero k0
      have da0 : (cut cmd ap ct d most k).da.data.toList = d.take ((k + 1) * most) := by
        rw [dat, k0]
        simp
      by_cases la : d.length ≤ (k + 1) * most
      · have f3 : (cut cmd ap ct d most k).fl = 3 := by rw [flv, if_pos k0, if_pos la]; rfl
        refine ⟨⟨((cut cmd ap ct d most k).ct + 1) % 16384, opn1 s (cut cmd ap ct d most k)⟩, ⟨true, (cut cmd ap ct d most k).da.data.toList, mis s (cut cmd ap ct d most k), brk s (cut cmd ap ct d most k)⟩, ?_, mi, ⟨fun _ => ⟨hb, la⟩, fun _ => rfl⟩, fun _ => ?_, fun q => by omega, fun _ => o1, nx⟩
        · unfold Pk.feed
          rw [if_pos f3]
        · show (cut cmd ap ct d most k).da.data.toList = d
          rw [da0, tl la]
      · have f3 : ¬ (cut cmd ap ct d most k).fl = 3 := by rw [flv, if_pos k0, if_neg la]; omega
        have f1 : (cut cmd ap ct d most k).fl = 1 := by rw [flv, if_pos k0, if_neg la]; rfl
        refine ⟨⟨((cut cmd ap ct d most k).ct + 1) % 16384, some (cut cmd ap ct d most k).da.data.toList⟩, ⟨false, [], mis s (cut cmd ap ct d most k), brk s (cut cmd ap ct d most k)⟩, ?_, mi, ⟨fun q => absurd q (by simp), fun q => absurd q.2 la⟩, fun q => absurd q (by simp), fun _ => ⟨fun q => absurd q (by omega), fun q => absurd q (by simp), fun x hx => ?_, fun _ _ => ⟨rfl, ?_⟩, fun q => ?_⟩, fun q => absurd q la, nx⟩
        · unfold Pk.feed
          rw [if_neg f3, if_pos f1]
        · cases hx
          show _ = (((cut cmd ap ct d most k).ct + 1) % 16384 + ((0 : Nat) : Int)) % 16384
          rw [nx]
          omega
        · show some (cut cmd ap ct d most k).da.data.toList = _
          rw [da0]
        · rcases q with q | q
          · rw [hb] at q
            cases q
          · omega
    · have hb : b = false := by
        cases b with
        | false => rfl
        | true => exact absurd ⟨rfl, by omega⟩ w1
      have f1 : ¬ (cut cmd ap ct d most k).fl = 1 := by rw [flv, if_neg k0]; split <;> omega
      have f3 : ¬ (cut cmd ap ct d most k).fl = 3 := by rw [flv, if_neg k0]; split <;> omega
      refine ⟨⟨((cut cmd ap ct d most k).ct + 1) % 16384, none⟩, ⟨false, [], mis s (cut cmd ap ct d most k), brk s (cut cmd ap ct d most k)⟩, ?_, mi, ⟨fun q => absurd q (by simp), fun q => by rw [hb] at q; exact absurd q.1 (by simp)⟩, fun q => absurd q (by simp), fun _ => ⟨fun q => absurd q (by omega), fun q => absurd q (by simp), fun x hx => ?_, fun q => by rw [hb] at q; exact absurd q (by simp), fun _ => .inr rfl⟩, fun _ => rfl, nx⟩
      · unfold Pk.feed
        rw [if_neg f3, if_neg f1, o1]
      · cases hx
        show _ = (((cut cmd ap ct d most k).ct + 1) % 16384 + ((0 : Nat) : Int)) % 16384
        rw [nx]
        omega
end
end Pk
end Go.Proofs.Ytphkaambodecdaa
