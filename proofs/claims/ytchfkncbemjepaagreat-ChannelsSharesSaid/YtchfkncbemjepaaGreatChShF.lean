/- ChShF -/
import Derived.Test.YtchfkncbemjepaaGreatChFrm
import Derived.Test.YtchfkncbemjepaaGreatChSharP
/- Layer 11's laws, pure: a demux is fed a frame of the mux. -/
namespace Go.Proofs.YtchfkncbemjepaaGreat.Ch
open Go.Proofs.YtchfkncbemjepaaGreat
set_option linter.unusedVariables false

theorem own_feed {x : Mx} (o : x.Ok) (wd : Nat) (hw : wd < 4294967296) {y : Dx} (hc : y.craft = x.craft) (hn : y.n = x.n) :
    (y.feed (bs (Tm.enc (x.frm wd)))).2.1 = 0 ∧ (y.feed (bs (Tm.enc (x.frm wd)))).1.ch = x.ch ∧ (y.feed (bs (Tm.enc (x.frm wd)))).2.2.craft = y.craft ∧ (y.feed (bs (Tm.enc (x.frm wd)))).2.2.n = y.n := by
  have ok := Mx.frm_ok o wd
  have g : Tm.get (bs (Tm.enc (x.frm wd))).data.toList = (x.frm wd, 0) := by rw [bs_list]; exact Tm.get_enc ok hw
  have sz : (x.frm wd).da.size = x.n := by
    show (bs x.dat).size = x.n
    rw [bs_size, Mx.dat_len o]
  have cc : (x.frm wd).ch.toNat = x.ch := rfl
  unfold Dx.feed
  rw [g]
  simp only [ne_eq, not_true_eq_false, if_false]
  rw [if_neg (show ¬ ((x.frm wd).cr ≠ (y.craft : Int) ∨ (x.frm wd).da.size ≠ y.n) from fun h => by
    rcases h with h | h
    · exact h (by show (x.craft : Int) = y.craft; rw [hc])
    · exact h (by rw [sz, hn]))]
  split
  · exact ⟨rfl, cc, rfl, rfl⟩
  · exact ⟨rfl, cc, rfl, rfl⟩
end Go.Proofs.YtchfkncbemjepaaGreat.Ch
