/- TmRnP -/
import Derived.Test.YtchfkncbemjepaaGreatTpNext
import Derived.Test.YtchfkncbemjepaaGreatRegHF
import Derived.Test.YtchfkncbemjepaaGreatTmGd
import Derived.Test.YtchfkncbemjepaaGreatTmRadd
set_option linter.unusedVariables false
set_option maxRecDepth 100000
/- Layer 10's laws: filled, made, and what shown asks. -/
namespace Go.Proofs.YtchfkncbemjepaaGreat
open Go.RowKit

def zs (n:Nat):ByteArray:=bs (Fld.zeros n)
theorem zs_size (n:Nat):(zs n).size=n:=by
  unfold zs
  rw [bs_size]
  simp [Fld.zeros]
def mkP (n:Nat):Pkt:=⟨false,3,3,0,zs (n - 6)⟩
theorem mkP_ok (n:Nat) (h1:7<=n) (h2:n<=1030):Pk.Ok (mkP n):=by
  refine ⟨⟨by show (0:Int)<=3; decide,by show (3:Int)<=2047; decide⟩,⟨by show (0:Int)<=3; decide,by show (3:Int)<=3; decide⟩,⟨by show (0:Int)<=0; decide,by show (0:Int)<=16383; decide⟩,?_,?_⟩
  · show 1<=(zs (n - 6)).size
    rw [zs_size]; omega
  show (zs (n - 6)).size<=1024
  rw [zs_size]; omega
def mk (n:Nat):List UInt8:=Pk.enc (mkP n)
theorem mk_len (n:Nat) (h:7<=n):(mk n).length=n:=by
  unfold mk
  rw [Pk.enc_len]
  show 6 + (zs (n - 6)).size=n
  rw [zs_size]; omega
theorem mk_gt (n:Nat) (h1:7<=n) (h2:n<=1030):Pk.gt (mk n)=(mkP n,0):=by
  have t:=Pk.take_enc (mkP_ok n h1 h2) []
  rw [List.append_nil] at t
  unfold Pk.gt mk
  rw [t]
  simp
theorem mk_busy (n:Nat) (h1:7<=n) (h2:n<=1030):Pk.busy (mk n)=true:=by
  unfold Pk.busy
  rw [mk_gt n h1 h2]
  exact decide_eq_true ⟨rfl,by show (3:Int) ≠ 2047; decide⟩
end Go.Proofs.YtchfkncbemjepaaGreat
/- Layer 10's laws: shown is true. -/
namespace Go.Proofs.YtchfkncbemjepaaGreat
open Go.RowKit

end Go.Proofs.YtchfkncbemjepaaGreat

/- Layer 10: the reference's filler: Next. -/
namespace Go.Proofs.YtchfkncbemjepaaGreat
open Go.RowKit

def lists (L:List ByteArray):List (List UInt8):=L.map fun s=>s.data.toList
end Go.Proofs.YtchfkncbemjepaaGreat
