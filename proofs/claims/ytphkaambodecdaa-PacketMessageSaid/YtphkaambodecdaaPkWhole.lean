/- Layer 9, pure: no packet of a message being lost, each packet's piece. -/
import Derived.Test.YtphkaambodecdaaPkJoin
namespace Go.Proofs.Ytphkaambodecdaa.Pk
variable {cmd : Bool} {ap ct : Int} {d : List UInt8} {most k : Nat}
theorem unbroken {s : Option St} (h : Inv ct d most k 0 true s) (hd : d.length ≤ 16384) : (Pk.feed s (cut cmd ap ct d most k)).2.broken = false := by
  have mi := mis_is (cmd := cmd) (ap := ap) h (by omega)
  have m0 : mis s (cut cmd ap ct d most k) = 0 := by rw [mi]; split <;> rfl
  have dat := cut_data (cmd := cmd) (ap := ap) (ct := ct) (d := d) (most := most) (k := k)
  have tk := cut_take (d := d) (most := most) (k := k)
  have flv : (cut cmd ap ct d most k).fl = (if k = 0 then 1 else 0) + (if d.length ≤ (k + 1) * most then 2 else 0) := rfl
  by_cases hk : k = 0
  · have ho : opn s = none := by
      rcases h.no (.inr hk) with g | g
      · omega
      · exact g
    have br : brk s (cut cmd ap ct d most k) = false := by unfold brk; rw [ho]; rfl
    rw [if_pos hk] at flv
    unfold Pk.feed
    by_cases g : d.length ≤ (k + 1) * most
    · rw [if_pos g] at flv
      rw [if_pos (by rw [flv]; rfl)]
      exact br
    · rw [if_neg g] at flv
      rw [if_neg (by rw [flv]; decide), if_pos (by rw [flv]; rfl)]
      exact br
  · obtain ⟨_, ho⟩ := h.yes rfl (by omega)
    rw [if_neg hk] at flv
    have f1 : ¬ (cut cmd ap ct d most k).fl = 1 := by rw [flv]; split <;> omega
    have f3 : ¬ (cut cmd ap ct d most k).fl = 3 := by rw [flv]; split <;> omega
    have br : brk s (cut cmd ap ct d most k) = false := by
      unfold brk
      rw [m0, decide_eq_false f1, decide_eq_false f3]
      simp
    have o1 : opn1 s (cut cmd ap ct d most k) = some (d.take (k * most)) := by
      unfold opn1
      rw [br, if_neg (by simp), ho]
    have ll : ¬ 16384 < (d.take (k * most) ++ (cut cmd ap ct d most k).da.data.toList).length := by
      rw [dat, tk, List.length_take]
      omega
    unfold Pk.feed
    rw [if_neg f3, if_neg f1, o1]
    simp only
    rw [if_neg ll]
    split <;> exact br
theorem Inv.all {s : Option St} (h : Inv ct d most k 0 true s) (hm : 1 ≤ most) (hd : d.length ≤ 16384) (hk : k * most < d.length) :
    ∃ st m, Pk.feed s (cut cmd ap ct d most k) = (st, ⟨decide (d.length ≤ (k + 1) * most), m, 0, false⟩) ∧ (d.length ≤ (k + 1) * most → m = d) ∧ ((k + 1) * most < d.length → Inv ct d most (k + 1) 0 true (some st)) := by
  obtain ⟨st, pc, e, a1, a2, a3, a4, _⟩ := h.feed (cmd := cmd) (ap := ap) (by omega) hm hd hk
  have ub := unbroken (cmd := cmd) (ap := ap) h hd
  rw [e] at ub
  have wh : pc.whole = decide (d.length ≤ (k + 1) * most) := by
    by_cases g : d.length ≤ (k + 1) * most
    · rw [decide_eq_true g]; exact a2.2 ⟨rfl, g⟩
    · rw [decide_eq_false g]
      cases hw : pc.whole with
      | false => rfl
      | true => exact absurd (a2.1 hw).2 g
  have mi0 : pc.missed = 0 := by rw [a1]; split <;> rfl
  refine ⟨st, pc.msg, ?_, fun q => a3 (a2.2 ⟨rfl, q⟩), a4⟩
  rw [e, ← wh]
  obtain ⟨p1, p2, p3, p4⟩ := pc
  simp only at mi0 ub
  subst mi0 ub
  rfl
end Go.Proofs.Ytphkaambodecdaa.Pk
