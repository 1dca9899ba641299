/- RcDNew -/
import Derived.Test.YtchfkncbemjepaaGreatRcFeedN
import Derived.Test.YtchfkncbemjepaaGreatChDNew
set_option linter.unusedVariables false
set_option maxRecDepth 100000
set_option maxHeartbeats 4000000
/- Layer 11, the reference: Feed in all cases; NewDemux. -/
namespace Go.Proofs.YtchfkncbemjepaaGreat
open Go.RowKit

def Ch.Dx.Inv (x:Ch.Dx):Prop:=∀ i,i < 8->(x.ch i).bg=false->(x.ch i).fr=⟨#[]⟩
theorem Ch.Dx.Inv.new (n c:Nat):(Ch.Dx.new n c).Inv:=fun _ _ _=>rfl
theorem Ch.Dx.Inv.feed {x:Ch.Dx} (h:x.Inv) (b:ByteArray):(x.feed b).2.2.Inv:=by
  unfold Ch.Dx.feed
  split
  · exact h
  split
  · exact h
  split
  · exact h
  intro i hi
  show (Ch.upd x.ch _ _ i).bg=false->(Ch.upd x.ch _ _ i).fr=_
  unfold Ch.upd
  split
  · intro e; cases e
  exact h i hi
theorem begin_few (d:List UInt8):(Ch.begin d).2.1.length<=d.length:=by
  have P:∀ (f:Nat) (l:List UInt8),(Ch.pks f l).1.length<=l.length:=fun f=>by
    induction f with
    | zero=>intro l; exact Nat.zero_le _
    | succ f ih=>
      intro l
      by_cases g:∃ p k,Pk.take l=.ok p k
      · obtain ⟨p,k,g⟩:=g
        obtain ⟨k7,kl,_⟩:=Ch.take_pos g
        rw [Ch.pks_ok g]
        have:=ih (l.drop k)
        rw [List.length_drop] at this
        show (Ch.pks f (l.drop k)).1.length + 1<=_
        omega
      rw [Ch.pks_no (fun p k e=>g ⟨p,k,e⟩)]
      exact Nat.zero_le _
  have K:(Ch.kept (Ch.pks d.length d).1).length<=d.length:=by
    unfold Ch.kept
    rw [List.length_map]
    exact Nat.le_trans (List.length_filter_le _ _) (P _ _)
  unfold Ch.begin
  split
  · exact K
  exact K
theorem tk_few (pt:List UInt8) (lo fi:Nat) (d:List UInt8):(Ch.tk pt lo fi d).2.1.length<=d.length + 1:=by
  rw [tk_cases pt lo fi d _ rfl]
  split
  · exact Nat.zero_le _
  split
  · exact Nat.le_trans (goOn_few _ _ _) (by omega)
  dsimp only
  rw [List.length_append]
  have a:=goOn_few (if lo ≠ 0/\pt ≠ [] then (([]:List UInt8),1) else (pt,0)).1 (d.take fi) false
  have b:=begin_few (d.drop fi)
  rw [List.length_drop] at b
  omega
theorem feed_few (x:Ch.Dx) (o:x.Ok) (b:ByteArray):(x.feed b).1.pk.length<=1000000:=by
  unfold Ch.Dx.feed
  split
  · exact Nat.zero_le _
  split
  · exact Nat.zero_le _
  rename_i hc
  split
  · exact Nat.zero_le _
  show (Ch.tk _ _ _ _).2.1.length<=_
  have t:=tk_few (x.ch (Tm.get b.data.toList).1.ch.toNat).pt (Ch.miss (x.ch (Tm.get b.data.toList).1.ch.toNat).bg (x.ch (Tm.get b.data.toList).1.ch.toNat).la (Tm.get b.data.toList).1.ct.toNat) (Tm.get b.data.toList).1.fi.toNat (Tm.get b.data.toList).1.da.data.toList
  have n:(Tm.get b.data.toList).1.da.size=x.n:=Classical.byContradiction (fun e=>hc (.inr e))
  rw [ls,n] at t
  have:=o.n2
  omega
theorem rFeed_any {w:World} {n0 D:Nat} {x:Ch.Dx} (h:QD w n0 D x) (hn0:n0<=w.heap.size) (b:ByteArray) (hb:b.size<=1000000) (o:x.Ok) (iv:x.Inv):Calls Tryz.prog 23 #[.pointer (some ⟨D,0,none⟩),.string b] w (Fq w n0 D b x):=by
  by_cases he:(Tm.get b.data.toList).2=0
  · by_cases hc:(Tm.get b.data.toList).1.cr ≠ x.craft\/(Tm.get b.data.toList).1.da.size ≠ x.n
    · exact rFeed_a h hn0 b hb he hc
    by_cases hd:(x.ch (Tm.get b.data.toList).1.ch.toNat).fr=b
    · exact rFeed_d h hn0 b hb he hc iv hd
    exact rFeed_n h hn0 b hb o he hc hd
  exact rFeed_e h hn0 b hb he
def NqP (n0:Nat) (craft size:Int) (e:Ending) (w':World):Prop:=(¬ NdOk craft size/\e=.returned (.tuple #[.pointer none,.int .i64 2]))\/(NdOk craft size/\∃ D,e=.returned (.tuple #[.pointer (some ⟨D,0,none⟩),.int .i64 0])/\QD w' n0 D (Ch.Dx.new size.toNat craft.toNat))
theorem dY_new (n cr:Nat):∀ j,j < 44->(#[.int .i64 (cr:Nat),.int .i64 (n:Nat),.bool false,.int .i64 0,.bool false,.string ⟨#[]⟩,.int .i64 0,.bool false,.string ⟨#[]⟩,.bool false,.string ⟨#[]⟩,.int .i64 0,.bool false,.string ⟨#[]⟩,.bool false,.string ⟨#[]⟩,.int .i64 0,.bool false,.string ⟨#[]⟩,.bool false,.string ⟨#[]⟩,.int .i64 0,.bool false,.string ⟨#[]⟩,.bool false,.string ⟨#[]⟩,.int .i64 0,.bool false,.string ⟨#[]⟩,.bool false,.string ⟨#[]⟩,.int .i64 0,.bool false,.string ⟨#[]⟩,.bool false,.string ⟨#[]⟩,.int .i64 0,.bool false,.string ⟨#[]⟩,.bool false,.string ⟨#[]⟩,.int .i64 0,.bool false,.string ⟨#[]⟩]:Array Value)[j]?=some (dY (Ch.Dx.new n cr) j):=fun j hj=>by
  match j,hj with
  | 0,_=>rfl
  | 1,_=>rfl
  | 2,_=>rfl
  | 3,_=>rfl
  | 4,_=>rfl
  | 5,_=>rfl
  | 6,_=>rfl
  | 7,_=>rfl
  | 8,_=>rfl
  | 9,_=>rfl
  | 10,_=>rfl
  | 11,_=>rfl
  | 12,_=>rfl
  | 13,_=>rfl
  | 14,_=>rfl
  | 15,_=>rfl
  | 16,_=>rfl
  | 17,_=>rfl
  | 18,_=>rfl
  | 19,_=>rfl
  | 20,_=>rfl
  | 21,_=>rfl
  | 22,_=>rfl
  | 23,_=>rfl
  | 24,_=>rfl
  | 25,_=>rfl
  | 26,_=>rfl
  | 27,_=>rfl
  | 28,_=>rfl
  | 29,_=>rfl
  | 30,_=>rfl
  | 31,_=>rfl
  | 32,_=>rfl
  | 33,_=>rfl
  | 34,_=>rfl
  | 35,_=>rfl
  | 36,_=>rfl
  | 37,_=>rfl
  | 38,_=>rfl
  | 39,_=>rfl
  | 40,_=>rfl
  | 41,_=>rfl
  | 42,_=>rfl
  | 43,_=>rfl
  | j + 44,h=>exact absurd h (by omega)
theorem box_d44 {ev:Operand->Value} {o:Oper} {w:World} {x:Operand} {n cr:Nat} (h:o.op=.box 108 x) (hx:ev x=.agg #[.int .i64 (cr:Nat),.int .i64 (n:Nat),.bool false,.int .i64 0,.bool false,.string ⟨#[]⟩,.int .i64 0,.bool false,.string ⟨#[]⟩,.bool false,.string ⟨#[]⟩,.int .i64 0,.bool false,.string ⟨#[]⟩,.bool false,.string ⟨#[]⟩,.int .i64 0,.bool false,.string ⟨#[]⟩,.bool false,.string ⟨#[]⟩,.int .i64 0,.bool false,.string ⟨#[]⟩,.bool false,.string ⟨#[]⟩,.int .i64 0,.bool false,.string ⟨#[]⟩,.bool false,.string ⟨#[]⟩,.int .i64 0,.bool false,.string ⟨#[]⟩,.bool false,.string ⟨#[]⟩,.int .i64 0,.bool false,.string ⟨#[]⟩,.bool false,.string ⟨#[]⟩,.int .i64 0,.bool false,.string ⟨#[]⟩]):(execOp ev o).run Tryz.prog w=.ok (.value (.pointer (some ⟨w.heap.size,0,none⟩))) (w.alloc (.cells #[.int .i64 (cr:Nat),.int .i64 (n:Nat),.bool false,.int .i64 0,.bool false,.string ⟨#[]⟩,.int .i64 0,.bool false,.string ⟨#[]⟩,.bool false,.string ⟨#[]⟩,.int .i64 0,.bool false,.string ⟨#[]⟩,.bool false,.string ⟨#[]⟩,.int .i64 0,.bool false,.string ⟨#[]⟩,.bool false,.string ⟨#[]⟩,.int .i64 0,.bool false,.string ⟨#[]⟩,.bool false,.string ⟨#[]⟩,.int .i64 0,.bool false,.string ⟨#[]⟩,.bool false,.string ⟨#[]⟩,.int .i64 0,.bool false,.string ⟨#[]⟩,.bool false,.string ⟨#[]⟩,.int .i64 0,.bool false,.string ⟨#[]⟩,.bool false,.string ⟨#[]⟩,.int .i64 0,.bool false,.string ⟨#[]⟩] 108)):=by
  simp only [execOp,h,hx]; go_simp
theorem rnewDemux_any (craft size:Int) (w:World):Calls Tryz.prog 21 #[.int .i64 craft,.int .i64 size] w fun e w'=>Below w.heap.size w w'/\NqP w.heap.size craft size e w':=by
  have B0:=Lib.hid (Below.refl w.heap.size w)
  by_cases ok:NdOk craft size
  · obtain ⟨c1,c2⟩:=ok
    obtain ⟨cr,rfl⟩:∃ z:Nat,craft=z:=⟨craft.toNat,by omega⟩
    obtain ⟨n,rfl⟩:∃ z:Nat,size=z:=⟨size.toNat,by omega⟩
    have OKK:=Lib.hid (show NdOk cr n from ⟨c1,c2⟩)
    have a1:decide ((cr:Int) < 0)=false:=decide_eq_false (by omega)
    have a2:decide (255 < (cr:Int))=false:=decide_eq_false (by omega)
    have a2n:decide (255 < cr)=false:=decide_eq_false (by omega)
    have a3:decide ((n:Int) < 32)=false:=decide_eq_false (by omega)
    have a3n:decide (n < 32)=false:=decide_eq_false (by omega)
    have a4:decide (200 < (n:Int))=false:=decide_eq_false (by omega)
    have a4n:decide (200 < n)=false:=decide_eq_false (by omega)
    clear c1 c2
    go_enter Tryz.func21,Tryz.ntmps21
    go_wp2_with ((with_reducible refine atList ?_); refine wpList_newT rfl (.box 108 (.tmp 22)) rfl (some 23) rfl #[.int .i64 (cr:Nat),.int .i64 (n:Nat),.bool false,.int .i64 0,.bool false,.string ⟨#[]⟩,.int .i64 0,.bool false,.string ⟨#[]⟩,.bool false,.string ⟨#[]⟩,.int .i64 0,.bool false,.string ⟨#[]⟩,.bool false,.string ⟨#[]⟩,.int .i64 0,.bool false,.string ⟨#[]⟩,.bool false,.string ⟨#[]⟩,.int .i64 0,.bool false,.string ⟨#[]⟩,.bool false,.string ⟨#[]⟩,.int .i64 0,.bool false,.string ⟨#[]⟩,.bool false,.string ⟨#[]⟩,.int .i64 0,.bool false,.string ⟨#[]⟩,.bool false,.string ⟨#[]⟩,.int .i64 0,.bool false,.string ⟨#[]⟩,.bool false,.string ⟨#[]⟩,.int .i64 0,.bool false,.string ⟨#[]⟩] 108 (fun X=>.pointer (some ⟨X,0,none⟩)) 44 (dY (Ch.Dx.new n cr)) (dY_new n cr) (box_d44 rfl rfl) ?_; intro D w1 HD SD CD BD TD)
    go_ret2
    refine ⟨BD.out,.inr ⟨OKK.out,D,rfl,?_⟩⟩
    rw [Int.toNat_natCast,Int.toNat_natCast]
    exact ⟨Nat.le_of_eq HD.out,TD.out,CD.out⟩
  have BAD:=Lib.hid ok
  by_cases a1:craft < 0
  · clear ok
    go_enter Tryz.func21,Tryz.ntmps21
    go_wp2_with fail
    go_ret2
    exact ⟨B0.out,.inl ⟨BAD.out,rfl⟩⟩
  have a1':decide (craft < 0)=false:=decide_eq_false a1
  by_cases a2:255 < craft
  · clear ok
    go_enter Tryz.func21,Tryz.ntmps21
    go_wp2_with fail
    go_ret2
    exact ⟨B0.out,.inl ⟨BAD.out,rfl⟩⟩
  have a2':decide (255 < craft)=false:=decide_eq_false a2
  by_cases a3:size < 32
  · clear ok
    go_enter Tryz.func21,Tryz.ntmps21
    go_wp2_with fail
    go_ret2
    exact ⟨B0.out,.inl ⟨BAD.out,rfl⟩⟩
  have a3':decide (size < 32)=false:=decide_eq_false a3
  have a4:200 < size:=by unfold NdOk at ok; omega
  have a4':decide (200 < size)=true:=decide_eq_true a4
  clear ok
  go_enter Tryz.func21,Tryz.ntmps21
  go_wp2_with fail
  go_ret2
  exact ⟨B0.out,.inl ⟨BAD.out,rfl⟩⟩
end Go.Proofs.YtchfkncbemjepaaGreat
