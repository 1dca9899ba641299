/- Layer 9: what a packet adds to an open message, in the landed program's words. Plain mathematics. -/
import Derived.Test.YtphkaambodecdaaPkJoin
namespace Go.Proofs.Ytphkaambodecdaa
set_option linter.unusedVariables false

namespace Pk
/-- Is it the first one, the last one of its message? -/
def fstF (p : Pkt) : Bool := decide (p.fl = 1 ∨ p.fl = 3)
def lstF (p : Pkt) : Bool := decide (p.fl = 2 ∨ p.fl = 3)
/-- What follows the flags' first look: the text that is left (empty: none is open), and whether a message is given up. -/
def gup (tx : List UInt8) (mi : Int) (p : Pkt) : Bool := decide (tx ≠ []) && (fstF p || decide (mi ≠ 0))
def txL (tx : List UInt8) (mi : Int) (p : Pkt) : List UInt8 := if gup tx mi p = true then [] else tx
/-- The text behind the packet, and the piece. -/
def addT (tx : List UInt8) (mi : Int) (p : Pkt) : List UInt8 :=
  if fstF p = false ∧ txL tx mi p = [] then []
  else if 16384 < (txL tx mi p ++ p.da.data.toList).length then []
  else if lstF p = true then [] else txL tx mi p ++ p.da.data.toList
def addP (tx : List UInt8) (mi : Int) (p : Pkt) : Pc :=
  if fstF p = false ∧ txL tx mi p = [] then ⟨false, [], mi, gup tx mi p⟩
  else if 16384 < (txL tx mi p ++ p.da.data.toList).length then ⟨false, [], mi, true⟩
  else if lstF p = true then ⟨true, txL tx mi p ++ p.da.data.toList, mi, gup tx mi p⟩ else ⟨false, [], mi, gup tx mi p⟩
/-- A text that is open, or none. -/
def toOp (l : List UInt8) : Option (List UInt8) := if l = [] then none else some l
def txt (s : Option St) : List UInt8 := (opn s).getD []
theorem txt_op {s : Option St} (h : opn s ≠ some []) : opn s = toOp (txt s) := by
  unfold txt toOp
  cases e : opn s with
  | none => rfl
  | some l =>
    have : l ≠ [] := fun q => h (by rw [e, q])
    simp [this]
/-- Feed, so said. -/
theorem feed_add {s : Option St} {p : Pkt} (ho : Ok p) (h : opn s ≠ some []) : feed s p = (⟨(p.ct + 1) % 16384, toOp (addT (txt s) (mis s p) p)⟩, addP (txt s) (mis s p) p) := by
  obtain ⟨_, ⟨f0, f3⟩, _, d1, d2⟩ := ho
  have dl : p.da.data.toList.length = p.da.size := da_len p
  obtain ⟨d, hd⟩ : ∃ d, p.da.data.toList = d := ⟨_, rfl⟩
  rw [hd] at dl
  have dn : d ≠ [] := fun e => by rw [e] at dl; simp at dl; omega
  obtain ⟨tx, ht⟩ : ∃ t, txt s = t := ⟨_, rfl⟩
  obtain ⟨mi, hm⟩ : ∃ m, mis s p = m := ⟨_, rfl⟩
  have e0 : opn s = toOp tx := by rw [← ht]; exact txt_op h
  have eb : brk s p = gup tx mi p := by
    unfold brk gup fstF
    rw [e0, hm]
    unfold toOp
    by_cases e : tx = []
    · simp [e]
    · simp [e, Bool.or_comm]
  have e1 : opn1 s p = toOp (txL tx mi p) := by
    unfold opn1 txL
    rw [eb, e0]
    cases gup tx mi p <;> rfl
  unfold feed addT addP
  rw [eb, e1, ht, hm, hd]
  obtain ⟨g, hg⟩ : ∃ g, gup tx mi p = g := ⟨_, rfl⟩
  have gx : (p.fl = 1 ∨ p.fl = 3) → txL tx mi p = [] := fun hf => by
    unfold txL gup fstF
    by_cases e : tx = []
    · simp [e]
    · rw [if_pos (by simp [e, hf])]
  rw [hg]
  by_cases h3 : p.fl = 3
  · rw [if_pos h3, gx (.inr h3)]
    have a1 : fstF p = true := decide_eq_true (.inr h3)
    have a2 : lstF p = true := decide_eq_true (.inr h3)
    have nl : ¬ 16384 < d.length := by omega
    simp [a1, a2, toOp, nl]
  · rw [if_neg h3]
    by_cases h1 : p.fl = 1
    · rw [if_pos h1, gx (.inl h1)]
      have a1 : fstF p = true := decide_eq_true (.inl h1)
      have a2 : lstF p = false := decide_eq_false (by omega)
      have nl : ¬ 16384 < d.length := by omega
      simp [a1, a2, toOp, nl, dn]
    · rw [if_neg h1]
      have a1 : fstF p = false := decide_eq_false (by omega)
      simp only [a1, true_and]
      obtain ⟨t2, ht2⟩ : ∃ t, txL tx mi p = t := ⟨_, rfl⟩
      rw [ht2]
      by_cases e : t2 = []
      · subst e
        simp [toOp]
      · have te : toOp t2 = some t2 := by unfold toOp; rw [if_neg e]
        rw [te, if_neg e, if_neg e]
        simp only
        by_cases hl : 16384 < (t2 ++ d).length
        · rw [if_pos hl, if_pos hl, if_pos hl]
          rfl
        · rw [if_neg hl, if_neg hl, if_neg hl]
          by_cases h2 : p.fl = 2
          · have a2 : lstF p = true := decide_eq_true (.inl h2)
            rw [if_pos h2, a2, if_pos rfl, if_pos rfl]
            rfl
          · have a2 : lstF p = false := decide_eq_false (by omega)
            rw [if_neg h2, a2, if_neg (by simp), if_neg (by simp)]
            unfold toOp
            rw [if_neg (by simp [e])]
theorem toOp_ne (l : List UInt8) : toOp l ≠ some [] := by
  unfold toOp
  split
  · simp
  · intro h
    simp at h
    contradiction
end Pk
end Go.Proofs.Ytphkaambodecdaa
