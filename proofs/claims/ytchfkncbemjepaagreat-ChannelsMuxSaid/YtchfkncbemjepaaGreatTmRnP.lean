/- TmRnP -/
import Derived.Test.YtchfkncbemjepaaGreatTpNext
import Derived.Test.YtchfkncbemjepaaGreatRegHF
import Derived.Test.YtchfkncbemjepaaGreatTmGd
import Derived.Test.YtchfkncbemjepaaGreatTmRadd
set_option linter.unusedVariables false
set_option maxRecDepth 100000
/- Layer 10's laws: filled, made, and what shown asks. -/
namespace Go.Proofs.YtchfkncbemjepaaGreat
open Go.RowKit

def zs (n:Nat):ByteArray:=bs (Fld.zeros n)
theorem zs_size (n:Nat):(zs n).size=n:=by
  unfold zs
  rw [bs_size]
  simp [Fld.zeros]
def mkP (n:Nat):Pkt:=⟨false,3,3,0,zs (n - 6)⟩
theorem mkP_ok (n:Nat) (h1:7<=n) (h2:n<=1030):Pk.Ok (mkP n):=by
  refine ⟨⟨by show (0:Int)<=3; decide,by show (3:Int)<=2047; decide⟩,⟨by show (0:Int)<=3; decide,by show (3:Int)<=3; decide⟩,⟨by show (0:Int)<=0; decide,by show (0:Int)<=16383; decide⟩,?_,?_⟩
  · show 1<=(zs (n - 6)).size
    rw [zs_size]; omega
  show (zs (n - 6)).size<=1024
  rw [zs_size]; omega
def mk (n:Nat):List UInt8:=Pk.enc (mkP n)
theorem mk_len (n:Nat) (h:7<=n):(mk n).length=n:=by
  unfold mk
  rw [Pk.enc_len]
  show 6 + (zs (n - 6)).size=n
  rw [zs_size]; omega
end Go.Proofs.YtchfkncbemjepaaGreat
/- Layer 10's laws: shown is true. -/
namespace Go.Proofs.YtchfkncbemjepaaGreat
open Go.RowKit

end Go.Proofs.YtchfkncbemjepaaGreat

/- Layer 10's laws: shown is true. -/
namespace Go.Proofs.YtchfkncbemjepaaGreat
open Go.RowKit

theorem beq_same (s:ByteArray):(s == s)=true:=by
  show (s.data == s.data)=true
  simp
end Go.Proofs.YtchfkncbemjepaaGreat

/- Layer 10: the reference's filler: Next. -/
namespace Go.Proofs.YtchfkncbemjepaaGreat
open Go.RowKit

def lists (L:List ByteArray):List (List UInt8):=L.map fun s=>s.data.toList
theorem lists_wait (L:List ByteArray):Tm.wait (lists L)=sizes L:=(sizes_flat L).symm
def fst2 (bg:Bool) (fst pos:Nat):Nat:=if bg=false/\fst=2047 then pos else fst
theorem cut_list (s:ByteArray) (k:Nat):(s.extract 0 k).data.toList=s.data.toList.take k:=by
  rw [ext_list _ _ _ (Nat.zero_le _),List.drop_zero]
theorem rest_list (s:ByteArray) (k:Nat) (h:k<=s.size):(s.extract k s.size).data.toList=s.data.toList.drop k:=by
  rw [ext_list _ _ _ h,List.take_of_length_le (by rw [ls]; exact Nat.le_refl _)]
theorem app_list (a b:ByteArray):(a ++ b).data.toList=a.data.toList ++ b.data.toList:=by simp
theorem app_size (a b:ByteArray):(a ++ b).size=a.size + b.size:=by simp
structure Jn (n:Nat) (F:ByteArray) (fst:Nat) (L:List ByteArray) (bg:Bool) (R:List UInt8 × Nat × List (List UInt8) × Bool):Prop where
  le:F.size<=n
  eq:R=(F.data.toList ++ (Tm.pull (lists L) bg (n - F.size) F.size fst).1,(Tm.pull (lists L) bg (n - F.size) F.size fst).2)
  full:∀ s ∈ L,0 < s.size
  few:L.length<=100000
theorem Jn.done {n:Nat} {F:ByteArray} {fst:Nat} {L:List ByteArray} {bg:Bool} {R:List UInt8 × Nat × List (List UInt8) × Bool} (h:Jn n F fst L bg R) (hd:L=[]\/F.size=n):R=(F.data.toList,fst,lists L,bg):=by
  have e:Tm.pull (lists L) bg (n - F.size) F.size fst=([],fst,lists L,bg):=by
    rcases hd with rfl | e
    · rfl
    rw [e,Nat.sub_self]
    cases L with
    | nil=>rfl
    | cons s L=>show Tm.pull (s.data.toList :: lists L) _ _ _ _=_; unfold Tm.pull; rw [if_pos rfl]; rfl
  rw [h.eq,e,List.append_nil]
theorem Jn.all {n:Nat} {F s:ByteArray} {fst:Nat} {L:List ByteArray} {bg:Bool} {R:List UInt8 × Nat × List (List UInt8) × Bool} (h:Jn n F fst (s :: L) bg R) (hlt:F.size < n) (hs:s.size<=n - F.size):Jn n (F ++ s) (fst2 bg fst F.size) L false R:=by
  refine ⟨by rw [app_size]; omega,?_,fun x hx=>h.full x (List.mem_cons_of_mem _ hx),by have:=h.few; rw [List.length_cons] at this; omega⟩
  have e:=h.eq
  rw [show lists (s :: L)=s.data.toList :: lists L from rfl] at e
  unfold Tm.pull at e
  rw [if_neg (show ¬ n - F.size=0 by omega),if_pos (show s.data.toList.length<=n - F.size by rw [ls]; exact hs)] at e
  rw [e,app_list,app_size,ls,List.append_assoc,show n - F.size - s.size=n - (F.size + s.size) by omega]
  rfl
theorem Jn.part {n:Nat} {F s:ByteArray} {fst:Nat} {L:List ByteArray} {bg:Bool} {R:List UInt8 × Nat × List (List UInt8) × Bool} (h:Jn n F fst (s :: L) bg R) (hlt:F.size < n) (hs:n - F.size < s.size):Jn n (F ++ s.extract 0 (n - F.size)) (fst2 bg fst F.size) (s.extract (n - F.size) s.size :: L) true R:=by
  have z:(F ++ s.extract 0 (n - F.size)).size=n:=by
    rw [app_size,ByteArray.size_extract]
    omega
  refine ⟨Nat.le_of_eq z,?_,fun x hx=>?_,h.few⟩
  · have e:=h.eq
    rw [show lists (s :: L)=s.data.toList :: lists L from rfl] at e
    unfold Tm.pull at e
    rw [if_neg (show ¬ n - F.size=0 by omega),if_neg (show ¬ s.data.toList.length<=n - F.size by rw [ls]; omega)] at e
    rw [z,Nat.sub_self,show lists (s.extract (n - F.size) s.size :: L)=(s.extract (n - F.size) s.size).data.toList :: lists L from rfl,rest_list _ _ (by omega)]
    unfold Tm.pull
    rw [if_pos rfl,app_list,cut_list,e]
    simp [fst2]
  rcases List.mem_cons.1 hx with rfl | hx
  · rw [ByteArray.size_extract]; omega
  exact h.full x (List.mem_cons_of_mem _ hx)
theorem pull_out:∀ (q:List (List UInt8)) (bg:Bool) (room pos fst:Nat),Tm.Full q->q ≠ []->Tm.wait q<=room->(Tm.pull q bg room pos fst).2.2=([],false)
  | [],_,_,_,_,_,h,_=>absurd rfl h
  | p :: q,bg,room,pos,fst,hf,_,hw=>by
    have hp:0 < p.length:=by
      have:=hf p (List.mem_cons_self ..)
      exact List.length_pos_iff.2 this
    have hw':p.length + Tm.wait q<=room:=by
      have:Tm.wait (p :: q)=p.length + Tm.wait q:=by unfold Tm.wait; simp
      omega
    unfold Tm.pull
    rw [if_neg (by omega),if_pos (by omega)]
    by_cases hq:q=[]
    · subst hq; rfl
    exact pull_out q _ _ _ _ (fun x hx=>hf x (List.mem_cons_of_mem _ hx)) hq (by omega)
theorem full_lists {L:List ByteArray} (h:∀ s ∈ L,0 < s.size):Tm.Full (lists L):=fun p hp=>by
  obtain ⟨s,hs,rfl⟩:=List.mem_map.1 hp
  have:=h s hs
  intro e
  have l:s.size=0:=by rw [<-ls,e]; rfl
  omega
def strOf:Value->Nat
  | .string s=>s.size
  | _=>0
theorem next_full {n:Nat} {re:ByteArray} {L:List ByteArray} {bg:Bool} {F:ByteArray} {fst:Nat} {L':List ByteArray} {bg':Bool}
    (hR:(F.data.toList,fst,lists L',bg')=(re.data.toList ++ (Tm.pull (lists L) bg (n - re.size) re.size 2047).1,(Tm.pull (lists L) bg (n - re.size) re.size 2047).2)) (hr:re.size<=n) (hF:F.size=n):
    Tm.next tmIdle n ⟨lists L,bg,re.data.toList⟩=(F.data.toList,fst,⟨lists L',bg',[]⟩):=by
  have h1:=congrArg Prod.fst hR
  have h2:=congrArg Prod.snd hR
  simp only at h1 h2
  have hb:=(Tm.pull_bytes (lists L) bg (n - re.size) re.size 2047).1
  have hl:=congrArg List.length h1
  rw [ls,List.length_append,ls,hb,List.length_take,hF] at hl
  have hw:n<=re.data.toList.length + Tm.wait (lists L):=by
    rw [ls]
    unfold Tm.wait
    omega
  unfold Tm.next
  rw [if_pos hw]
  simp only
  rw [ls,<-h1,<-h2]
theorem next_idle {n:Nat} {re:ByteArray} {L:List ByteArray} {bg:Bool} {F:ByteArray} {fst:Nat} {L':List ByteArray} {bg':Bool}
    (hR:(F.data.toList,fst,lists L',bg')=(re.data.toList ++ (Tm.pull (lists L) bg (n - re.size) re.size 2047).1,(Tm.pull (lists L) bg (n - re.size) re.size 2047).2)) (hr:re.size<=n) (hF:F.size < n) (hf:∀ s ∈ L,0 < s.size) (hL:L ≠ []):
    L'=[]/\bg'=false/\Tm.next tmIdle n ⟨lists L,bg,re.data.toList⟩=(F.data.toList ++ (tmIdle (max (n - F.size) 7)).take (n - F.size),(if fst=2047 then F.size else fst),⟨[],false,(tmIdle (max (n - F.size) 7)).drop (n - F.size)⟩):=by
  have h1:=congrArg Prod.fst hR
  have h2:=congrArg Prod.snd hR
  simp only at h1 h2
  have hb:=(Tm.pull_bytes (lists L) bg (n - re.size) re.size 2047).1
  have hl:=congrArg List.length h1
  rw [ls,List.length_append,ls,hb,List.length_take] at hl
  have hw:re.size + Tm.wait (lists L)=F.size:=by
    unfold Tm.wait
    omega
  have po:=pull_out (lists L) bg (n - re.size) re.size 2047 (full_lists hf) (fun e=>hL (by cases L with | nil=>rfl | cons s L=>cases e)) (by omega)
  rw [<-h2] at po
  simp only at po
  have p1:=congrArg Prod.fst po
  have p2:=congrArg Prod.snd po
  simp only at p1 p2
  refine ⟨by (cases L' with | nil=>rfl | cons s L=>cases p1),p2,?_⟩
  unfold Tm.next
  rw [if_neg (show ¬ n<=re.data.toList.length + Tm.wait (lists L) by rw [ls]; omega)]
  simp only
  rw [ls,hw,<-h2]
  have ft:(lists L).flatten.take (n - re.size)=(lists L).flatten:=List.take_of_length_le (by unfold Tm.wait at hw; omega)
  rw [hb,ft] at h1
  rw [<-h1]
theorem slice_lo_strs {ev:Operand->Value} {o:Oper} {w:World} {x y:Operand} {g O' L bc M C:Nat} (h:o.op=.slice 43 x (some y) none none) (hx:ev x=.slice (some ⟨g,0,none⟩) L bc) (hy:ev y=.int .i64 1) (h1:1<=L) (h2:L<=bc) (hO:O'=if bc=1 then 0 else 1) (hM:M=L - 1) (hC:C=bc - 1):(execOp ev o).run Tryz.prog w=.ok (.value (.slice (some ⟨g,O',none⟩) M C)) w:=by
  have nb3:(1:Int)<=(L:Int):=by omega
  subst hM hC
  by_cases hb:bc=1
  · rw [if_pos hb] at hO
    subst hO hb
    have e:L=1:=by omega
    subst e
    simp only [execOp,h]
    go_simp
  rw [if_neg hb] at hO
  subst hO
  simp only [execOp,h]
  go_simp
def OneS (n0:Nat) (s:ByteArray) (v:Value) (w:World):Prop:=∃ g,v=.slice (some ⟨g,0,none⟩) 1 1/\n0<=g/\w.ownsRow n0 9 1 v 1 [.string s]
theorem OneS.mono {n0:Nat} {s:ByteArray} {v:Value} {w w':World} (h:OneS n0 s v w) (hb:Below w.heap.size w w'):OneS n0 s v w':=by
  obtain ⟨g,e,h1,h2⟩:=h
  exact ⟨g,e,h1,own_below h2 hb⟩
theorem OneS.new (n0:Nat) (s:ByteArray) (w:World) (h:n0<=w.heap.size):OneS n0 s (.slice (some ⟨w.heap.size,0,none⟩) 1 1) (w.alloc (.cells #[.string s] 9)):=⟨_,rfl,h,own_new2 [.string s] rfl (by unfold maxLen; omega) h⟩
theorem cells_none {w:World} {n0:Nat} {e:TypeId} {G O1 N cap:Nat} {s:Value} {xs:List Value} (h:w.ownsRow n0 e 1 (.slice (some ⟨G,0,none⟩) N cap) N (s :: xs)) (hO:O1=if cap=1 then 0 else 1) (hN:N=xs.length + 1) (hc:N<=cap):∀ j u,xs[j]?=some u->w.cell? ((⟨G,O1,none⟩:Addr).add j)=some u:=fun j u hu=>by
  have hj:j < xs.length:=(List.getElem?_eq_some_iff.1 hu).1
  rw [if_neg (by omega)] at hO
  subst hO
  have:=h.cells (g:=G) rfl (j + 1) u (by rw [List.getElem?_cons_succ]; exact hu)
  rw [add_off] at this ⊢
  rwa [show 1 + j=0 + (j + 1) by omega]
end Go.Proofs.YtchfkncbemjepaaGreat
