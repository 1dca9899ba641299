/- PkGet -/
import Derived.Test.YtchfkncbemjepaaGreatPkJoin
set_option linter.unusedVariables false
/- Layer 9: the reference's Take and Get. -/
namespace Go.Proofs.YtchfkncbemjepaaGreat
open Go.RowKit

def pk0:Pkt:=⟨false,0,0,0,⟨#[]⟩⟩
section
variable {P:Program}
end
def tkV:Pk.Res->Value
  | .ok p n=>.tuple #[pkVal p,.int .i64 (n:Nat),.int .i64 0]
  | .none=>.tuple #[pkVal pk0,.int .i64 0,.int .i64 4]
  | .form=>.tuple #[pkVal pk0,.int .i64 0,.int .i64 6]
end Go.Proofs.YtchfkncbemjepaaGreat

/- Layer 9: the reference's Get and Idle. -/
namespace Go.Proofs.YtchfkncbemjepaaGreat
open Go.RowKit

def getV (l:List UInt8):Value:=
  match Pk.take l with
  | .ok p n=>if n=l.length then .tuple #[pkVal p,.int .i64 0] else .tuple #[pkVal pk0,.int .i64 6]
  | _=>.tuple #[pkVal pk0,.int .i64 6]
theorem tkV_form (r:Pk.Res):∃ (p:Pkt) (n:Nat) (c:Int),tkV r=.tuple #[pkVal p,.int .i64 (n:Nat),.int .i64 c]/\((c=0/\r=.ok p n)\/(c ≠ 0/\∀ q k,r ≠ .ok q k)):=by
  cases r with
  | ok p n=>exact ⟨p,n,0,rfl,.inl ⟨rfl,rfl⟩⟩
  | none=>exact ⟨pk0,0,4,rfl,.inr ⟨by decide,fun q k h=>by cases h⟩⟩
  | form=>exact ⟨pk0,0,6,rfl,.inr ⟨by decide,fun q k h=>by cases h⟩⟩
def zer (n:Nat):ByteArray:=⟨(Gal.coefs (fun _=>0#8) n).toArray⟩
theorem zer_size (n:Nat):(zer n).size=n:=coefs_size _ _
def pkIdle (n:Nat):Pkt:=⟨false,2047,3,0,zer n⟩
theorem idle_ok (n:Nat) (h1:1<=n) (h2:n<=1024):Pk.Ok (pkIdle n):=⟨by show (0:Int)<=2047/\(2047:Int)<=2047; omega,by show (0:Int)<=3/\(3:Int)<=3; omega,by show (0:Int)<=0/\(0:Int)<=16383; omega,by show 1<=(zer n).size; rw [zer_size]; exact h1,by show (zer n).size<=1024; rw [zer_size]; exact h2⟩
end Go.Proofs.YtchfkncbemjepaaGreat
