/- ChClear -/
import Derived.Test.YtchfkncbemjepaaGreatChNew
import Derived.Test.YtchfkncbemjepaaGreatChNext
set_option linter.unusedVariables false
set_option maxRecDepth 100000
/- Layer 11, the landed program: Clear of a mux. -/
namespace Go.Proofs.YtchfkncbemjepaaGreat
open Go.RowKit

theorem PM.congr {w:World} {n0 M:Nat} {x x':Ch.Mx} {X:Nat->Nat} {va vb:Nat->Value} (h:PM w n0 M x X va vb) (hn:x'.n=x.n) (hc:x'.craft=x.craft) (hm:x'.ma=x.ma)
    (h1:∀ i,i < 8->x'.pr i=x.pr i) (h2:∀ i,i < 8->x'.sh i=x.sh i) (h3:∀ i,i < 8->x'.fl i=x.fl i) (h4:∀ i,i < 8->x'.ct i=x.ct i) (h5:∀ i,i < 8->x'.cr i=x.cr i):PM w n0 M x' X va vb:=by
  refine ⟨h.xl,h.ty,h.c.congr (fun j hj=>?_),fun i hi=>?_,h.ap⟩
  · unfold mC
    by_cases h4':4<=j
    · rw [if_pos h4',if_pos h4']
      have hq:(j - 4) / 6 < 8:=by omega
      have hk:(j - 4) % 6 < 6:=by omega
      match (j - 4) % 6,hk with
      | 0,_=>rfl
      | 1,_=>rfl
      | 2,_=>exact congrArg (fun z:Nat=>Value.int .i64 z) (h1 _ hq).symm
      | 3,_=>exact congrArg (fun z:Nat=>Value.int .i64 z) (h2 _ hq).symm
      | 4,_=>exact congrArg (fun z:Nat=>Value.int .i64 z) (h5 _ hq).symm
      | 5,_=>exact congrArg (fun z:Nat=>Value.int .i64 z) (h4 _ hq).symm
    rw [if_neg h4',if_neg h4']
    match j,h4' with
    | 0,_=>rfl
    | 1,_=>exact congrArg (fun z:Nat=>Value.int .i64 z) hc.symm
    | 2,_=>exact congrArg (fun z:Nat=>Value.int .i64 z) hn.symm
    | 3,_=>exact congrArg (fun z:Nat=>Value.int .i64 z) hm.symm
    | j + 4,h=>exact absurd (by omega) h
  rw [hn,h3 i hi]
  exact h.f i hi
end Go.Proofs.YtchfkncbemjepaaGreat
