/- TmFlip -/
import Derived.Test.YtchfkncbemjepaaGreatTmRef
import Derived.Test.YtchfkncbemjepaaGreatCrcBits
set_option linter.unusedVariables false
set_option maxRecDepth 100000
/- Layer 10: the reference's number. -/
namespace Go.Proofs.YtchfkncbemjepaaGreat
open Go.RowKit

def Tm.num (l:List UInt8) (i:Nat):Nat:=Pk.nb l i * 256 + Pk.nb l (i + 1)
theorem Tm.num_lt (l:List UInt8) (i:Nat):Tm.num l i < 65536:=by
  have:=Pk.nb_lt l i
  have:=Pk.nb_lt l (i + 1)
  unfold Tm.num
  omega
end Go.Proofs.YtchfkncbemjepaaGreat
/- Layer 10: the reference's Get. -/
namespace Go.Proofs.YtchfkncbemjepaaGreat
open Go.RowKit

def tm0:Tmf:=⟨0,0,0,0,0,⟨#[]⟩,0⟩
namespace Tm
def dec (l:List UInt8):Tmf:=
  ⟨(num l 0 / 64:Nat),(num l 0 / 8 % 8:Nat),(Pk.nb l 2:Nat),(Pk.nb l 3:Nat),(num l 4:Nat),⟨((l.drop 6).take (l.length - 12)).toArray⟩,num l (l.length - 6) * 65536 + num l (l.length - 4)⟩
def get (l:List UInt8):Tmf × Int:=
  if l.length < 44\/212 < l.length then (tm0,6)
  else if num l (l.length - 2) ≠ (Crc.sum16 (l.take (l.length - 2))).toNat then (tm0,100)
  else if Ok (dec l)/\enc (dec l)=l then (dec l,0)
  else (tm0,6)
end Tm
theorem alloc_tm {ev:Operand->Value} {o:Oper} {w:World} (h:o.op=.alloc 100):(execOp ev o).run Tryz.prog w=.ok (.value (.pointer (some ⟨w.heap.size,0,none⟩))) (w.alloc (.cells #[.int .i64 0,.int .i64 0,.int .i64 0,.int .i64 0,.int .i64 0,.string ⟨#[]⟩,.int .u32 0] 100)):=by
  simp only [execOp,h]; go_simp
end Go.Proofs.YtchfkncbemjepaaGreat
/- Layer 10: the reference's Get. -/
namespace Go.Proofs.YtchfkncbemjepaaGreat
open Go.RowKit

theorem ext_list (b:ByteArray) (i j:Nat) (h:i<=j):(b.extract i j).data.toList=(b.data.toList.take j).drop i:=by
  have e:i + (j - i)=j:=by omega
  simp [ByteArray.data_extract,List.take_drop,e]
end Go.Proofs.YtchfkncbemjepaaGreat
/- Layer 10, pure: a frame is got from its encoding. -/
namespace Go.Proofs.YtchfkncbemjepaaGreat.Tm

theorem nb_six_add (a b c:Nat) (d:List UInt8) (i:Nat):Pk.nb (Pk.six a b c d) (6 + i)=Pk.nb d i:=by
  rw [Pk.nb_get,Pk.nb_get,List.getD_eq_getElem?_getD,List.getD_eq_getElem?_getD,<-List.getElem?_drop,Pk.six_drop]
theorem nb_app_add (l x:List UInt8) (i:Nat):Pk.nb (l ++ x) (l.length + i)=Pk.nb x i:=by
  rw [Pk.nb_get,Pk.nb_get,List.getD_eq_getElem?_getD,List.getD_eq_getElem?_getD,List.getElem?_append_right (by omega),Nat.add_sub_cancel_left]
theorem num_hd (n:Nat) (h:n < 65536) (x:List UInt8):num (Pk.hd n ++ x) 0=n:=by
  unfold num
  rw [Pk.nb_app (by rw [Pk.hd_len]; omega),Pk.nb_app (by rw [Pk.hd_len]; omega),Pk.hd_0 n h,Pk.hd_1 n]
  omega
theorem num_app (l x:List UInt8) {i k:Nat} (h:i=l.length + k):num (l ++ x) i=num x k:=by
  subst h
  unfold num
  rw [nb_app_add,Nat.add_assoc,nb_app_add]
theorem num_six (a b c:Nat) (d:List UInt8) {i k:Nat} (h:i=6 + k):num (Pk.six a b c d) i=num d k:=by
  subst h
  unfold num
  rw [nb_six_add,Nat.add_assoc,nb_six_add]
def sm (f:Tmf):Nat:=(Crc.sum16 (body f)).toNat
theorem sm_lt (f:Tmf):sm f < 65536:=(Crc.sum16 (body f)).isLt
theorem enc_flat (f:Tmf):enc f=Pk.six (f.cr.toNat * 64 + f.ch.toNat * 8) (f.ma.toNat * 256 + f.ct.toNat) f.fi.toNat (f.da.data.toList ++ (Pk.hd (f.wo / 65536) ++ (Pk.hd (f.wo % 65536) ++ Pk.hd (sm f)))):=by
  unfold enc
  show body f ++ Pk.hd (sm f)=_
  conv=>lhs; unfold body
  unfold Pk.six
  simp only [List.append_assoc]
theorem take_body (f:Tmf):(enc f).take ((enc f).length - 2)=body f:=by
  rw [enc_len]
  unfold enc
  rw [show f.da.size + 12 - 2=(body f).length by rw [body_len]; omega,List.take_left]
section
variable {f:Tmf} (ok:Ok f) (hw:f.wo < 4294967296)
include ok hw
theorem at_enc:num (enc f) 0=f.cr.toNat * 64 + f.ch.toNat * 8/\Pk.nb (enc f) 2=f.ma.toNat/\Pk.nb (enc f) 3=f.ct.toNat/\num (enc f) 4=f.fi.toNat ∧
    num (enc f) (f.da.size + 6)=f.wo / 65536/\num (enc f) (f.da.size + 8)=f.wo % 65536/\num (enc f) (f.da.size + 10)=sm f:=by
  obtain ⟨⟨⟨a0,a1⟩,⟨a2,a3⟩,⟨a4,a5⟩,⟨a6,a7⟩,a8,a9⟩,a10⟩:=ok
  obtain ⟨b0,b1,b2,b3,b4,b5⟩:=Pk.six_at (f.cr.toNat * 64 + f.ch.toNat * 8) (f.ma.toNat * 256 + f.ct.toNat) f.fi.toNat (f.da.data.toList ++ (Pk.hd (f.wo / 65536) ++ (Pk.hd (f.wo % 65536) ++ Pk.hd (sm f)))) (by omega) (by omega) (by omega)
  rw [<-enc_flat] at b0 b1 b2 b3 b4 b5
  have dl:f.da.data.toList.length=f.da.size:=ls f.da
  refine ⟨by unfold num; rw [b0,b1]; omega,by rw [b2]; omega,by rw [b3]; omega,by unfold num; rw [b4,b5]; omega,?_,?_,?_⟩
  · rw [enc_flat,num_six _ _ _ _ (k:=f.da.size) (by omega),num_app _ _ (k:=0) (by omega),num_hd _ (by omega)]
  · rw [enc_flat,num_six _ _ _ _ (k:=f.da.size + 2) (by omega),num_app _ _ (k:=2) (by omega),num_app _ _ (k:=0) (by rw [Pk.hd_len]),num_hd _ (by omega)]
  rw [enc_flat,num_six _ _ _ _ (k:=f.da.size + 4) (by omega),num_app _ _ (k:=4) (by omega),num_app _ _ (k:=2) (by rw [Pk.hd_len]),num_app _ _ (k:=0) (by rw [Pk.hd_len])]
  have:=num_hd (sm f) (sm_lt f) []
  rwa [List.append_nil] at this
theorem dec_enc:dec (enc f)=f:=by
  obtain ⟨h0,h1,h2,h3,h4,h5,h6⟩:=at_enc ok hw
  have el:=enc_len f
  obtain ⟨⟨⟨a0,a1⟩,⟨a2,a3⟩,⟨a4,a5⟩,⟨a6,a7⟩,a8,a9⟩,a10⟩:=ok
  have dl:f.da.data.toList.length=f.da.size:=ls f.da
  have hda:((enc f).drop 6).take (f.da.size + 12 - 12)=f.da.data.toList:=by
    rw [enc_flat,Pk.six_drop,show f.da.size + 12 - 12=f.da.data.toList.length by omega,List.take_left]
  unfold dec
  rw [el,h0,h1,h2,h3,show f.da.size + 12 - 6=f.da.size + 6 by omega,show f.da.size + 12 - 4=f.da.size + 8 by omega,h4,h5,hda]
  have c1:(((f.cr.toNat * 64 + f.ch.toNat * 8) / 64:Nat):Int)=f.cr:=by omega
  have c2:(((f.cr.toNat * 64 + f.ch.toNat * 8) / 8 % 8:Nat):Int)=f.ch:=by omega
  have c3:(f.ma.toNat:Int)=f.ma:=by omega
  have c4:(f.ct.toNat:Int)=f.ct:=by omega
  have c5:(f.fi.toNat:Int)=f.fi:=by omega
  have c6:(⟨f.da.data.toList.toArray⟩:ByteArray)=f.da:=bs_self f.da
  have c7:f.wo / 65536 * 65536 + f.wo % 65536=f.wo:=by omega
  rw [c1,c2,c3,c4,c5,c6,c7]
theorem get_enc:get (enc f)=(f,0):=by
  obtain ⟨h0,h1,h2,h3,h4,h5,h6⟩:=at_enc ok hw
  have el:=enc_len f
  have hd:=dec_enc ok hw
  have sz:=ok.1.2.2.2.2
  unfold get
  rw [if_neg (by omega),if_neg (by rw [take_body,el,show f.da.size + 12 - 2=f.da.size + 10 by omega,h6]; exact fun q=>q rfl),hd,if_pos ⟨ok,rfl⟩]
end
theorem get_ok {l:List UInt8} (h:(get l).2=0):Ok (get l).1/\enc (get l).1=l:=by
  unfold get at *
  split at h
  · cases h
  rename_i g1
  rw [if_neg g1]
  split at h
  · cases h
  rename_i g2
  rw [if_neg g2]
  split at h
  · rename_i g3
    rw [if_pos g3]
    exact g3
  cases h
end Go.Proofs.YtchfkncbemjepaaGreat.Tm

/- Layer 10, pure: a filler as the reference has it: the packets that wait, each as the bytes that have not been returned. -/
namespace Go.Proofs.YtchfkncbemjepaaGreat.Tm

structure Fl where
  q:List (List UInt8)
  bg:Bool
  re:List UInt8
def wait (q:List (List UInt8)):Nat:=q.flatten.length
def pull:List (List UInt8)->Bool->Nat->Nat->Nat->List UInt8 × Nat × List (List UInt8) × Bool
  | [],bg,_,_,fst=>([],fst,[],bg)
  | p :: q,bg,room,pos,fst=>
    if room=0 then ([],fst,p :: q,bg)
    else if p.length<=room then
      ((p ++ (pull q false (room - p.length) (pos + p.length) (if bg=false/\fst=2047 then pos else fst)).1),(pull q false (room - p.length) (pos + p.length) (if bg=false/\fst=2047 then pos else fst)).2)
    else (p.take room,(if bg=false/\fst=2047 then pos else fst),p.drop room :: q,true)
theorem pull_bytes:∀ (q:List (List UInt8)) (bg:Bool) (room pos fst:Nat),(pull q bg room pos fst).1=q.flatten.take room/\(pull q bg room pos fst).2.2.1.flatten=q.flatten.drop room
  | [],bg,room,pos,fst=>by simp [pull]
  | p :: q,bg,room,pos,fst=>by
    unfold pull
    by_cases h0:room=0
    · rw [if_pos h0,h0]; simp
    rw [if_neg h0]
    by_cases h1:p.length<=room
    · rw [if_pos h1]
      obtain ⟨i1,i2⟩:=pull_bytes q false (room - p.length) (pos + p.length) (if bg=false/\fst=2047 then pos else fst)
      refine ⟨?_,?_⟩
      · show p ++ _=(p ++ q.flatten).take room
        rw [i1,List.take_append,List.take_of_length_le h1]
      show _=(p ++ q.flatten).drop room
      rw [List.drop_append,List.drop_of_length_le h1,List.nil_append]
      exact i2
    rw [if_neg h1]
    refine ⟨?_,?_⟩
    · show p.take room=(p ++ q.flatten).take room
      rw [List.take_append,show room - p.length=0 by omega,List.take_zero,List.append_nil]
    show p.drop room ++ q.flatten=(p ++ q.flatten).drop room
    rw [List.drop_append,show room - p.length=0 by omega,List.drop_zero]
def Full (q:List (List UInt8)):Prop:=∀ p ∈ q,p ≠ []
theorem pull_full:∀ (q:List (List UInt8)) (bg:Bool) (room pos fst:Nat),Full q->Full (pull q bg room pos fst).2.2.1
  | [],bg,room,pos,fst,h=>by simp [pull,Full]
  | p :: q,bg,room,pos,fst,h=>by
    have hq:Full q:=fun x hx=>h x (List.mem_cons_of_mem _ hx)
    unfold pull
    by_cases h0:room=0
    · rw [if_pos h0]; exact h
    rw [if_neg h0]
    by_cases h1:p.length<=room
    · rw [if_pos h1]; exact pull_full q _ _ _ _ hq
    rw [if_neg h1]
    intro x hx
    rcases List.mem_cons.1 hx with e | e
    · rw [e]
      intro g
      have:=congrArg List.length g
      rw [List.length_drop] at this
      simp at this
      omega
    exact hq x e
theorem pull_keep:∀ (q:List (List UInt8)) (bg:Bool) (room pos fst:Nat),fst ≠ 2047->(pull q bg room pos fst).2.1=fst
  | [],bg,room,pos,fst,h=>rfl
  | p :: q,bg,room,pos,fst,h=>by
    have e:(if bg=false/\fst=2047 then pos else fst)=fst:=if_neg (fun g=>h g.2)
    unfold pull
    rw [e]
    by_cases h0:room=0
    · rw [if_pos h0]
    rw [if_neg h0]
    by_cases h1:p.length<=room
    · rw [if_pos h1]; exact pull_keep q _ _ _ _ h
    rw [if_neg h1]
theorem pull_fresh (p:List UInt8) (q:List (List UInt8)) (room pos:Nat) (h0:0 < room) (hp:pos < 2047):(pull (p :: q) false room pos 2047).2.1=pos:=by
  have e:(if (false=false/\(2047:Nat)=2047) then pos else 2047)=pos:=if_pos ⟨rfl,rfl⟩
  unfold pull
  rw [if_neg (show ¬ room=0 by omega),e]
  by_cases h1:p.length<=room
  · rw [if_pos h1]; exact pull_keep q _ _ _ _ (by omega)
  rw [if_neg h1]
theorem pull_begun (p:List UInt8) (q:List (List UInt8)) (room pos:Nat) (h0:0 < room) (hp:pos + p.length < 2047) (hr:room < 2047):
    (pull (p :: q) true room pos 2047).2.1=if p.length < room/\q ≠ [] then pos + p.length else 2047:=by
  have e:(if (true=false/\(2047:Nat)=2047) then pos else 2047)=2047:=if_neg (by simp)
  unfold pull
  rw [if_neg (show ¬ room=0 by omega),e]
  by_cases h1:p.length<=room
  · rw [if_pos h1]
    cases q with
    | nil=>rw [if_neg (fun g=>g.2 rfl)]; rfl
    | cons a q=>
      by_cases h2:p.length < room
      · rw [if_pos ⟨h2,by simp⟩]
        exact pull_fresh a q _ _ (by omega) hp
      rw [if_neg (fun g=>h2 g.1),show room - p.length=0 by omega]
      show (pull (a :: q) false 0 (pos + p.length) 2047).2.1=2047
      unfold pull
      rw [if_pos rfl]
  rw [if_neg h1,if_neg (by omega)]
def pend:List (List UInt8)->Bool->List UInt8
  | p :: _,true=>p
  | _,_=>[]
def later:List (List UInt8)->Bool->List (List UInt8)
  | _ :: q,true=>q
  | q,_=>q
theorem pend_no (q:List (List UInt8)):pend q false=[]:=by cases q <;> rfl
theorem later_no (q:List (List UInt8)):later q false=q:=by cases q <;> rfl
def started:List (List UInt8)->Bool->Nat->List (List UInt8)
  | [],_,_=>[]
  | p :: q,bg,room=>
    if room=0 then []
    else (if bg=true then [] else [p]) ++ (if p.length<=room then started q false (room - p.length) else [])
theorem started_zero (q:List (List UInt8)) (bg:Bool):started q bg 0=[]:=by
  cases q with
  | nil=>rfl
  | cons p q=>unfold started; rw [if_pos rfl]
theorem started_bytes:∀ (q:List (List UInt8)) (bg:Bool) (room pos fst:Nat),
    pend q bg ++ (started q bg room).flatten=(pull q bg room pos fst).1 ++ pend (pull q bg room pos fst).2.2.1 (pull q bg room pos fst).2.2.2 ∧
    later q bg=started q bg room ++ later (pull q bg room pos fst).2.2.1 (pull q bg room pos fst).2.2.2
  | [],bg,room,pos,fst=>by cases bg <;> exact ⟨rfl,rfl⟩
  | p :: q,bg,room,pos,fst=>by
    by_cases h0:room=0
    · subst h0
      rw [started_zero]
      unfold pull
      rw [if_pos rfl]
      exact ⟨by simp,rfl⟩
    unfold started pull
    rw [if_neg h0,if_neg h0]
    by_cases h1:p.length<=room
    · rw [if_pos h1,if_pos h1]
      obtain ⟨i1,i2⟩:=started_bytes q false (room - p.length) (pos + p.length) (if bg=false/\fst=2047 then pos else fst)
      rw [pend_no,List.nil_append] at i1
      rw [later_no] at i2
      cases bg with
      | false=>
        refine ⟨?_,?_⟩
        · show ([p] ++ started q false (room - p.length)).flatten=p ++ (pull q false _ _ _).1 ++ _
          rw [List.flatten_append,i1,List.append_assoc]
          simp
        show p :: q=[p] ++ started q false (room - p.length) ++ _
        rw [List.append_assoc]
        exact congrArg (p :: ·) i2
      | true=>
        refine ⟨?_,i2⟩
        show p ++ ([] ++ started q false (room - p.length)).flatten=p ++ (pull q false _ _ _).1 ++ _
        rw [List.nil_append,i1,List.append_assoc]
    rw [if_neg h1,if_neg h1]
    cases bg with
    | false=>
      refine ⟨?_,rfl⟩
      show ([p] ++ []).flatten=p.take room ++ p.drop room
      rw [List.take_append_drop]
      simp
    | true=>
      refine ⟨?_,rfl⟩
      show p ++ ([] ++ []).flatten=p.take room ++ p.drop room
      rw [List.take_append_drop]
      simp
theorem started_none {q:List (List UInt8)} {room:Nat}:started q false room=[] ↔ q=[]\/room=0:=by
  cases q with
  | nil=>simp [started]
  | cons p q=>
    unfold started
    by_cases h0:room=0
    · rw [if_pos h0]; simp [h0]
    rw [if_neg h0]; simp [h0]
theorem pull_first (q:List (List UInt8)) (bg:Bool) (room pos:Nat) (hq:Full q) (hb:bg=true->q ≠ []) (hp:pos + room < 2047):
    (pull q bg room pos 2047).2.1=if started q bg room=[] then 2047 else pos + (pend q bg).length:=by
  cases q with
  | nil=>
    cases bg with
    | false=>rfl
    | true=>exact absurd rfl (hb rfl)
  | cons p q=>
    by_cases h0:room=0
    · subst h0
      rw [started_zero,if_pos rfl]
      unfold pull
      rw [if_pos rfl]
    cases bg with
    | false=>
      rw [pull_fresh p q room pos (by omega) (by omega),if_neg (fun g=>by
        rcases started_none.1 g with e | e
        · cases e
        exact h0 e)]
      rfl
    | true=>
      by_cases h1:p.length < room
      · rw [pull_begun p q room pos (by omega) (by omega) (by omega)]
        have e:started (p :: q) true room=started q false (room - p.length):=by
          conv=>lhs; unfold started
          rw [if_neg h0,if_pos (show p.length<=room by omega)]
          rfl
        rw [e]
        by_cases hn:q=[]
        · rw [if_neg (fun g=>g.2 hn),if_pos (started_none.2 (.inl hn))]
        rw [if_pos ⟨h1,hn⟩,if_neg (fun g=>by
          rcases started_none.1 g with e | e
          · exact hn e
          omega)]
        rfl
      have e:started (p :: q) true room=[]:=by
        unfold started
        rw [if_neg h0]
        by_cases h2:p.length<=room
        · rw [if_pos h2,show room - p.length=0 by omega,started_zero]; rfl
        rw [if_neg h2]; rfl
      rw [e,if_pos rfl]
      unfold pull
      have e2:(if (true=false/\(2047:Nat)=2047) then pos else 2047)=2047:=if_neg (by simp)
      rw [if_neg h0,e2]
      by_cases h2:p.length<=room
      · rw [if_pos h2,show room - p.length=0 by omega]
        show (pull q false 0 (pos + p.length) 2047).2.1=2047
        cases q with
        | nil=>rfl
        | cons a q=>unfold pull; rw [if_pos rfl]
      rw [if_neg h2]
def next (idle:Nat->List UInt8) (n:Nat) (s:Fl):List UInt8 × Nat × Fl:=
  if n<=s.re.length + wait s.q then
    (s.re ++ (pull s.q s.bg (n - s.re.length) s.re.length 2047).1,(pull s.q s.bg (n - s.re.length) s.re.length 2047).2.1,⟨(pull s.q s.bg (n - s.re.length) s.re.length 2047).2.2.1,(pull s.q s.bg (n - s.re.length) s.re.length 2047).2.2.2,[]⟩)
  else
    (s.re ++ s.q.flatten ++ (idle (max (n - (s.re.length + wait s.q)) 7)).take (n - (s.re.length + wait s.q)),
      (if (pull s.q s.bg (n - s.re.length) s.re.length 2047).2.1=2047 then s.re.length + wait s.q else (pull s.q s.bg (n - s.re.length) s.re.length 2047).2.1),
      ⟨[],false,(idle (max (n - (s.re.length + wait s.q)) 7)).drop (n - (s.re.length + wait s.q))⟩)
theorem next_len {idle:Nat->List UInt8} {n:Nat} {s:Fl} (hi:∀ k,(idle k).length=k) (hr:s.re.length<=n):(next idle n s).1.length=n:=by
  unfold next
  by_cases h:n<=s.re.length + wait s.q
  · rw [if_pos h]
    show (s.re ++ _).length=n
    rw [(pull_bytes _ _ _ _ _).1,List.length_append,List.length_take]
    unfold wait at h
    omega
  rw [if_neg h]
  show (s.re ++ s.q.flatten ++ _).length=n
  rw [List.length_append,List.length_append,List.length_take,hi]
  unfold wait at *
  omega
end Go.Proofs.YtchfkncbemjepaaGreat.Tm
/- Layer 10, pure: the fields of a filler, one after the other, are its packets, in order, and idle ones. -/
namespace Go.Proofs.YtchfkncbemjepaaGreat.Tm

def flat (T:List (Bool × List UInt8)):List UInt8:=(T.map Prod.snd).flatten
theorem flat_app (T U:List (Bool × List UInt8)):flat (T ++ U)=flat T ++ flat U:=by unfold flat; rw [List.map_append,List.flatten_append]
def real (T:List (Bool × List UInt8)):List (List UInt8):=(T.filter fun x=>!x.1).map Prod.snd
theorem real_app (T U:List (Bool × List UInt8)):real (T ++ U)=real T ++ real U:=by unfold real; rw [List.filter_append,List.map_append]
def tag (l:List (List UInt8)):List (Bool × List UInt8):=l.map fun p=>(false,p)
theorem flat_tag (l:List (List UInt8)):flat (tag l)=l.flatten:=by
  unfold flat tag
  rw [List.map_map]
  congr 1
  exact List.map_id l
theorem real_tag (l:List (List UInt8)):real (tag l)=l:=by
  induction l with
  | nil=>rfl
  | cons p l ih=>
    show p :: real (tag l)=p :: l
    rw [ih]
structure Run (A:List (List UInt8)) (s:Fl) (T:List (Bool × List UInt8)) (out:List UInt8):Prop where
  full:Full s.q
  bgq:s.bg=true->s.q ≠ []
  apart:s.re=[]\/s.bg=false
  short:s.re.length<=6
  bytes:flat T=out ++ (s.re ++ pend s.q s.bg)
  pks:A=real T ++ later s.q s.bg
theorem Run.start:Run [] ⟨[],false,[]⟩ [] []:=⟨fun p hp=>(by cases hp),fun h=>(by cases h),.inl rfl,Nat.zero_le _,rfl,rfl⟩
theorem pend_add {q:List (List UInt8)} {bg:Bool} (h:bg=true->q ≠ []) (p:List UInt8):pend (q ++ [p]) bg=pend q bg/\later (q ++ [p]) bg=later q bg ++ [p]:=by
  cases bg with
  | false=>exact ⟨by rw [pend_no,pend_no],by rw [later_no,later_no]⟩
  | true=>
    cases q with
    | nil=>exact absurd rfl (h rfl)
    | cons a q=>exact ⟨rfl,rfl⟩
theorem Run.add {A:List (List UInt8)} {s:Fl} {T:List (Bool × List UInt8)} {out:List UInt8} (h:Run A s T out) {p:List UInt8} (hp:p ≠ []):Run (A ++ [p]) ⟨s.q ++ [p],s.bg,s.re⟩ T out:=by
  obtain ⟨e1,e2⟩:=pend_add h.bgq p
  refine ⟨fun x hx=>?_,fun hb g=>?_,h.apart,h.short,?_,?_⟩
  · rcases List.mem_append.1 hx with e | e
    · exact h.full x e
    rw [List.mem_singleton.1 e]; exact hp
  · exact absurd g (by simp)
  · show flat T=out ++ (s.re ++ pend (s.q ++ [p]) s.bg)
    rw [e1]; exact h.bytes
  show A ++ [p]=real T ++ later (s.q ++ [p]) s.bg
  rw [e2,h.pks,List.append_assoc]
theorem flatten_nil_of {q:List (List UInt8)} (h:Full q) (e:q.flatten=[]):q=[]:=by
  cases q with
  | nil=>rfl
  | cons p q=>
    rw [List.flatten_cons] at e
    exact absurd (List.append_eq_nil_iff.1 e).1 (h p (List.mem_cons_self ..))
theorem pull_bg:∀ (q:List (List UInt8)) (bg:Bool) (room pos fst:Nat),(bg=true->q ≠ [])->(pull q bg room pos fst).2.2.2=true->(pull q bg room pos fst).2.2.1 ≠ []
  | [],bg,room,pos,fst,h,g=>h g
  | p :: q,bg,room,pos,fst,h,g=>by
    unfold pull at *
    by_cases h0:room=0
    · rw [if_pos h0]; simp
    rw [if_neg h0] at g ⊢
    by_cases h1:p.length<=room
    · rw [if_pos h1] at g ⊢
      exact pull_bg q false _ _ _ (fun e=>by cases e) g
    rw [if_neg h1]; simp
theorem pend_flat (q:List (List UInt8)) (bg:Bool):pend q bg ++ (later q bg).flatten=q.flatten:=by
  cases bg with
  | false=>rw [pend_no,later_no]; rfl
  | true=>cases q <;> rfl
theorem Run.next {idle:Nat->List UInt8} {n:Nat} {A:List (List UInt8)} {s:Fl} {T:List (Bool × List UInt8)} {out:List UInt8} (h:Run A s T out) (hi:∀ k,(idle k).length=k) (hn:32<=n/\n<=200):
    ∃ U,Run A (next idle n s).2.2 (T ++ U) (out ++ (next idle n s).1)/\(next idle n s).2.1=(if U=[] then 2047 else s.re.length + (pend s.q s.bg).length) ∧
      (U=tag (started s.q s.bg (n - s.re.length))\/∃ k,7<=k/\k<=200/\U=tag (later s.q s.bg) ++ [(true,idle k)]/\s.re.length + wait s.q < n):=by
  have hs:=h.short
  have pf:=pull_first s.q s.bg (n - s.re.length) s.re.length h.full h.bgq (by omega)
  obtain ⟨b1,b2⟩:=started_bytes s.q s.bg (n - s.re.length) s.re.length 2047
  obtain ⟨c1,c2⟩:=pull_bytes s.q s.bg (n - s.re.length) s.re.length 2047
  have fu:=pull_full s.q s.bg (n - s.re.length) s.re.length 2047 h.full
  have bg:=pull_bg s.q s.bg (n - s.re.length) s.re.length 2047 h.bgq
  obtain ⟨P,hP⟩:∃ P,pull s.q s.bg (n - s.re.length) s.re.length 2047=P:=⟨_,rfl⟩
  obtain ⟨S,hS⟩:∃ S,started s.q s.bg (n - s.re.length)=S:=⟨_,rfl⟩
  rw [hP] at pf b1 b2 c1 c2 fu bg
  rw [hS] at pf b1 b2
  have sem:(tag S=[])=(S=[]):=by cases S <;> simp [tag]
  unfold Tm.next
  rw [hP]
  by_cases g:n<=s.re.length + wait s.q
  · rw [if_pos g]
    refine ⟨tag S,⟨fu,bg,.inl rfl,Nat.zero_le _,?_,?_⟩,?_,.inl (by rw [hS])⟩
    · show flat (T ++ tag S)=out ++ (s.re ++ P.1) ++ ([] ++ pend P.2.2.1 P.2.2.2)
      rw [flat_app,flat_tag,h.bytes,List.nil_append]
      simp only [List.append_assoc]
      rw [b1]
    · show A=real (T ++ tag S) ++ later P.2.2.1 P.2.2.2
      rw [real_app,real_tag,List.append_assoc,<-b2]
      exact h.pks
    show P.2.1=_
    rw [pf]
    simp only [sem]
  rw [if_neg g]
  have q0:P.2.2.1=[]:=flatten_nil_of fu (by
    rw [c2,List.drop_of_length_le]
    unfold wait at g
    omega)
  have p1:P.1=s.q.flatten:=by
    rw [c1,List.take_of_length_le]
    unfold wait at g
    omega
  rw [q0] at b1 b2
  have lS:later s.q s.bg=S:=by
    rw [b2]
    cases P.2.2.2 <;> exact List.append_nil _
  have pS:pend s.q s.bg ++ S.flatten=s.q.flatten:=by rw [<-lS]; exact pend_flat _ _
  obtain ⟨r,hr⟩:∃ r,n - (s.re.length + wait s.q)=r:=⟨_,rfl⟩
  rw [hr]
  refine ⟨tag S ++ [(true,idle (max r 7))],⟨fun p hp=>(by cases hp),fun e=>(by cases e),.inr rfl,?_,?_,?_⟩,?_,.inr ⟨max r 7,by omega,by omega,by rw [lS],by omega⟩⟩
  · show ((idle (max r 7)).drop r).length<=6
    rw [List.length_drop,hi]
    omega
  · show flat (T ++ (tag S ++ [(true,idle (max r 7))]))=out ++ (s.re ++ s.q.flatten ++ (idle (max r 7)).take r) ++ ((idle (max r 7)).drop r ++ [])
    rw [flat_app,flat_app,flat_tag,h.bytes,<-pS]
    show out ++ (s.re ++ pend s.q s.bg) ++ (S.flatten ++ (idle (max r 7) ++ []))=_
    simp only [List.append_assoc,List.append_nil]
    rw [List.take_append_drop]
  · show A=real (T ++ (tag S ++ [(true,idle (max r 7))])) ++ []
    rw [real_app,real_app,real_tag,h.pks,lS]
    show _=real T ++ (S ++ []) ++ []
    rw [List.append_nil,List.append_nil]
  show (if P.2.1=2047 then s.re.length + wait s.q else P.2.1)=_
  rw [if_neg (by simp:¬ tag S ++ [(true,idle (max r 7))]=[]),pf]
  by_cases e:S=[]
  · rw [if_pos e,if_pos rfl]
    have:s.q.flatten=pend s.q s.bg:=by rw [<-pS,e]; exact List.append_nil _
    unfold wait
    rw [this]
  rw [if_neg e]
  have lp:(pend s.q s.bg).length<=wait s.q:=by
    unfold wait
    rw [<-pS,List.length_append]
    omega
  rw [if_neg (by omega)]
theorem started_in:∀ (q:List (List UInt8)) (bg:Bool) (room:Nat) (T1:List (List UInt8)) (x:List UInt8) (T2:List (List UInt8)),started q bg room=T1 ++ x :: T2->(pend q bg).length + T1.flatten.length < room
  | [],bg,room,T1,x,T2,h=>by
    have:=congrArg List.length h
    simp [started] at this
  | p :: q,bg,room,T1,x,T2,h=>by
    unfold started at h
    by_cases h0:room=0
    · rw [if_pos h0] at h
      have:=congrArg List.length h
      simp at this
    rw [if_neg h0] at h
    cases bg with
    | false=>
      rw [pend_no]
      cases T1 with
      | nil=>show 0 + 0 < room; omega
      | cons a T1=>
        have h':p :: (if p.length<=room then started q false (room - p.length) else [])=a :: (T1 ++ x :: T2):=h
        obtain ⟨rfl,h2⟩:=List.cons.inj h'
        by_cases h1:p.length<=room
        · rw [if_pos h1] at h2
          have:=started_in q false _ T1 x T2 h2
          rw [pend_no] at this
          rw [List.flatten_cons,List.length_append]
          show 0 + _ < room
          have e:([]:List UInt8).length=0:=rfl
          omega
        rw [if_neg h1] at h2
        have:=congrArg List.length h2
        simp at this
    | true=>
      have h':(if p.length<=room then started q false (room - p.length) else [])=T1 ++ x :: T2:=h
      show p.length + _ < room
      by_cases h1:p.length<=room
      · rw [if_pos h1] at h'
        have:=started_in q false _ T1 x T2 h'
        rw [pend_no] at this
        have e:([]:List UInt8).length=0:=rfl
        omega
      rw [if_neg h1] at h'
      have:=congrArg List.length h'
      simp at this
end Go.Proofs.YtchfkncbemjepaaGreat.Tm
/- Layer 10, pure: the landed filler's bytes and places go with the reference's packets. -/
namespace Go.Proofs.YtchfkncbemjepaaGreat.Tm

def starts:Nat->List (List UInt8)->List Nat
  | _,[]=>[]
  | o,p :: l=>o :: starts (o + p.length) l
theorem starts_app:∀ (o:Nat) (l m:List (List UInt8)),starts o (l ++ m)=starts o l ++ starts (o + l.flatten.length) m
  | o,[],m=>by simp [starts]
  | o,p :: l,m=>by
    show o :: starts (o + p.length) (l ++ m)=o :: (starts (o + p.length) l ++ _)
    rw [starts_app (o + p.length) l m,List.flatten_cons,List.length_append,Nat.add_assoc]
theorem starts_ge:∀ (o:Nat) (l:List (List UInt8)) (g:Nat),g ∈ starts o l->o<=g/\g<=o + l.flatten.length
  | o,[],g,h=>by cases h
  | o,p :: l,g,h=>by
    rw [List.flatten_cons,List.length_append]
    rcases List.mem_cons.1 h with e | e
    · omega
    have:=starts_ge (o + p.length) l g e
    omega
theorem starts_lt:∀ (o:Nat) (l:List (List UInt8)),Full l->∀ (g:Nat),g ∈ starts o l->g < o + l.flatten.length
  | o,[],hf,g,h=>by cases h
  | o,p :: l,hf,g,h=>by
    have hp:0 < p.length:=by
      have:=hf p (List.mem_cons_self ..)
      cases p with
      | nil=>exact absurd rfl this
      | cons a p=>exact Nat.succ_pos _
    rw [List.flatten_cons,List.length_append]
    rcases List.mem_cons.1 h with e | e
    · omega
    have:=starts_lt (o + p.length) l (fun x hx=>hf x (List.mem_cons_of_mem _ hx)) g e
    omega
theorem starts_in:∀ (o m:Nat) (l:List (List UInt8)),(∀ T1 x T2,l=T1 ++ x :: T2->o + T1.flatten.length < m)->∀ g ∈ starts o l,g < m
  | o,m,[],h,g,hg=>by cases hg
  | o,m,p :: l,h,g,hg=>by
    rcases List.mem_cons.1 hg with e | e
    · have:=h [] p l rfl
      have z:([]:List (List UInt8)).flatten.length=0:=rfl
      omega
    refine starts_in (o + p.length) m l (fun T1 x T2 e2=>?_) g e
    have:=h (p :: T1) x T2 (by rw [e2]; rfl)
    rw [List.flatten_cons,List.length_append] at this
    omega
theorem starts_sub (n:Nat):∀ (o:Nat) (l:List (List UInt8)),(starts (n + o) l).map (· - n)=starts o l
  | o,[]=>rfl
  | o,p :: l=>by
    show (n + o - n) :: (starts (n + o + p.length) l).map (· - n)=o :: starts (o + p.length) l
    rw [Nat.add_assoc,starts_sub n (o + p.length) l,Nat.add_sub_cancel_left]
def fstAt (G:List Nat) (n:Nat):Nat:=(G.find? (fun g=>decide (g < n))).getD 2047
def cutG (G:List Nat) (n m:Nat):List Nat:=(G.filter (fun g=>decide (n<=g) && decide (g < m))).map (· - n)
theorem fstAt_yes {g n:Nat} {G:List Nat} (h:g < n):fstAt (g :: G) n=g:=by
  unfold fstAt
  rw [List.find?_cons_of_pos (by simpa using h)]
  rfl
theorem fstAt_no {G:List Nat} {n:Nat} (h:∀ g ∈ G,n<=g):fstAt G n=2047:=by
  unfold fstAt
  rw [List.find?_eq_none.2 (fun g hg=>by have:=h g hg; simp; omega)]
  rfl
theorem cutG_split {A C:List Nat} {n m:Nat} (h1:∀ g ∈ A,g < n) (h2:∀ g ∈ C,n<=g/\g < m):cutG (A ++ C) n m=C.map (· - n):=by
  unfold cutG
  rw [List.filter_append,List.filter_eq_nil_iff.2 (fun g hg=>by have:=h1 g hg; simp; omega),List.filter_eq_self.2 (fun g hg=>by have:=h2 g hg; simp; omega),List.nil_append]
structure Rel (s:Fl) (B:List UInt8) (G:List Nat) (r:Nat):Prop where
  bytes:B=s.re ++ s.q.flatten
  rest:r=s.re.length
  places:G=starts (s.re.length + (pend s.q s.bg).length) (later s.q s.bg)
theorem Rel.start:Rel ⟨[],false,[]⟩ [] [] 0:=⟨rfl,rfl,rfl⟩
theorem Rel.wait {s:Fl} {B:List UInt8} {G:List Nat} {r:Nat} (h:Rel s B G r):B.length=r + Tm.wait s.q:=by
  rw [h.bytes,h.rest,List.length_append]
  rfl
theorem Rel.add {s:Fl} {B:List UInt8} {G:List Nat} {r:Nat} (h:Rel s B G r) (hb:s.bg=true->s.q ≠ []) (p:List UInt8):Rel ⟨s.q ++ [p],s.bg,s.re⟩ (B ++ p) (G ++ [B.length]) r:=by
  obtain ⟨e1,e2⟩:=pend_add hb p
  refine ⟨?_,h.rest,?_⟩
  · show B ++ p=s.re ++ (s.q ++ [p]).flatten
    rw [h.bytes,List.flatten_append,List.append_assoc]
    simp
  show G ++ [B.length]=starts (s.re.length + (pend (s.q ++ [p]) s.bg).length) (later (s.q ++ [p]) s.bg)
  rw [e1,e2,starts_app,<-h.places]
  have:=congrArg List.length (pend_flat s.q s.bg)
  rw [List.length_append] at this
  rw [h.bytes,List.length_append]
  show _=G ++ [s.re.length + (pend s.q s.bg).length + (later s.q s.bg).flatten.length]
  rw [<-this,Nat.add_assoc]
theorem started_iff (q:List (List UInt8)) (bg:Bool) (room:Nat):started q bg room=[] ↔ later q bg=[]\/room<=(pend q bg).length:=by
  cases bg with
  | false=>
    rw [later_no,pend_no,started_none]
    show _ ↔ _\/room<=0
    rw [Nat.le_zero]
  | true=>
    cases q with
    | nil=>simp [started,later]
    | cons p q=>
      show (if room=0 then [] else ([]:List (List UInt8)) ++ if p.length<=room then started q false (room - p.length) else [])=[] ↔ q=[]\/room<=p.length
      rw [List.nil_append]
      by_cases h0:room=0
      · rw [if_pos h0]
        simp
        omega
      rw [if_neg h0]
      by_cases h1:p.length<=room
      · rw [if_pos h1,started_none]
        constructor
        · rintro (h | h)
          · exact .inl h
          exact .inr (by omega)
        rintro (h | h)
        · exact .inl h
        exact .inr (by omega)
      rw [if_neg h1]
      simp
      omega
theorem Rel.next {idle:Nat->List UInt8} {n:Nat} {A:List (List UInt8)} {s:Fl} {T:List (Bool × List UInt8)} {out B:List UInt8} {G:List Nat} {r:Nat} (u:Run A s T out) (h:Rel s B G r) (hi:∀ k,(idle k).length=k) (hn:32<=n/\n<=200):
    (n<=B.length->(Tm.next idle n s).1=B.take n/\(Tm.next idle n s).2.1=fstAt G n/\Rel (Tm.next idle n s).2.2 (B.drop n) (cutG G n B.length) 0) ∧
    (B.length < n->(Tm.next idle n s).1=(B ++ idle (max (n - B.length) 7)).take n/\(Tm.next idle n s).2.1=fstAt (G ++ [B.length]) n ∧
      Rel (Tm.next idle n s).2.2 ((B ++ idle (max (n - B.length) 7)).drop n) (cutG (G ++ [B.length]) n (B ++ idle (max (n - B.length) 7)).length) ((B ++ idle (max (n - B.length) 7)).drop n).length):=by
  have hs:=u.short
  have hw:=h.wait
  have pf:=pull_first s.q s.bg (n - s.re.length) s.re.length u.full u.bgq (by omega)
  obtain ⟨b1,b2⟩:=started_bytes s.q s.bg (n - s.re.length) s.re.length 2047
  obtain ⟨c1,c2⟩:=pull_bytes s.q s.bg (n - s.re.length) s.re.length 2047
  have si:=started_in s.q s.bg (n - s.re.length)
  have st:=started_iff s.q s.bg (n - s.re.length)
  have pl:=congrArg List.length (pend_flat s.q s.bg)
  rw [List.length_append] at pl
  have fl:Full (later s.q s.bg):=fun p hp=>u.full p (by
    revert hp
    cases s.bg with
    | false=>rw [later_no]; exact id
    | true=>
      cases s.q with
      | nil=>exact fun h=>h
      | cons a q=>exact fun h=>List.mem_cons_of_mem _ h)
  obtain ⟨P,hP⟩:∃ P,pull s.q s.bg (n - s.re.length) s.re.length 2047=P:=⟨_,rfl⟩
  obtain ⟨S,hS⟩:∃ S,started s.q s.bg (n - s.re.length)=S:=⟨_,rfl⟩
  rw [hP] at pf b1 b2 c1 c2
  rw [hS] at pf b1 b2 si st
  have wl:Tm.wait s.q=s.q.flatten.length:=rfl
  have hrest:=h.rest
  have bl:B.length=s.re.length + s.q.flatten.length:=by omega
  -- where the first packet begins
  have FA:∀ m,m=n->fstAt G m=if S=[] then 2047 else s.re.length + (pend s.q s.bg).length:=by
    rintro m rfl
    by_cases e:S=[]
    · rw [if_pos e]
      rcases st.1 e with q | q
      · rw [h.places,q]; rfl
      rw [h.places]
      exact fstAt_no (fun g hg=>by have:=(starts_ge _ _ g hg).1; omega)
    rw [if_neg e]
    have ne:¬ (later s.q s.bg=[]\/m - s.re.length<=(pend s.q s.bg).length):=fun q=>e (st.2 q)
    rw [h.places]
    cases hl:later s.q s.bg with
    | nil=>exact absurd (.inl hl) ne
    | cons a l=>exact fstAt_yes (by have:=fun q=>ne (.inr q); omega)
  constructor
  · intro g
    unfold Tm.next
    rw [hP,if_pos (by omega)]
    have p1:P.1.length=n - s.re.length:=by rw [c1,List.length_take]; omega
    refine ⟨?_,?_,⟨?_,rfl,?_⟩⟩
    · show s.re ++ P.1=B.take n
      rw [c1,h.bytes,List.take_append,List.take_of_length_le (l:=s.re) (by omega)]
    · show P.2.1=_
      rw [pf,FA n rfl]
    · show B.drop n=[] ++ P.2.2.1.flatten
      rw [c2,h.bytes,List.drop_append,List.drop_of_length_le (l:=s.re) (by omega)]
    show cutG G n B.length=starts (0 + (pend P.2.2.1 P.2.2.2).length) (later P.2.2.1 P.2.2.2)
    have o1:=congrArg List.length b1
    rw [List.length_append,List.length_append,p1] at o1
    have fl2:Full (later P.2.2.1 P.2.2.2):=fun p hp=>fl p (by rw [b2]; exact List.mem_append_right _ hp)
    have ln:(later s.q s.bg).flatten.length=S.flatten.length + (later P.2.2.1 P.2.2.2).flatten.length:=by rw [b2,List.flatten_append,List.length_append]
    rw [h.places,b2,starts_app,cutG_split,show s.re.length + (pend s.q s.bg).length + S.flatten.length=n + (0 + (pend P.2.2.1 P.2.2.2).length) by omega,starts_sub]
    · exact starts_in _ _ _ (fun T1 x T2 e=>by have:=si T1 x T2 e; omega)
    intro x hx
    have g1:=(starts_ge _ _ x hx).1
    have g2:=starts_lt _ _ fl2 x hx
    omega
  intro g
  unfold Tm.next
  rw [hP,if_neg (by omega)]
  have q0:S.flatten.length + P.2.2.1.flatten.length=(later s.q s.bg).flatten.length:=by
    have z:P.2.2.1.flatten=[]:=by rw [c2,List.drop_of_length_le (by omega)]
    have:=congrArg List.length (pend_flat P.2.2.1 P.2.2.2)
    rw [List.length_append,z] at this
    have z0:([]:List UInt8).length=0:=rfl
    rw [b2,List.flatten_append,List.length_append,z]
    omega
  have GL:∀ x ∈ G,x<=B.length:=fun x hx=>by
    rw [h.places] at hx
    have:=(starts_ge _ _ x hx).2
    omega
  rw [show s.re.length + Tm.wait s.q=B.length by omega]
  obtain ⟨k,hk⟩:∃ k,n - B.length=k:=⟨_,rfl⟩
  rw [hk]
  refine ⟨?_,?_,⟨?_,?_,?_⟩⟩
  · show s.re ++ s.q.flatten ++ (idle (max k 7)).take k=_
    rw [<-h.bytes,List.take_append,List.take_of_length_le (l:=B) (by omega),hk]
  · show (if P.2.1=2047 then B.length else P.2.1)=_
    rw [pf]
    by_cases e:S=[]
    · rw [if_pos e,if_pos rfl]
      rcases st.1 e with q | q
      · rw [h.places,q]
        exact (fstAt_yes (G:=[]) g).symm
      omega
    rw [if_neg e,if_neg (by omega)]
    have ne:¬ later s.q s.bg=[]:=fun q=>e (st.2 (.inl q))
    rw [h.places]
    cases hl:later s.q s.bg with
    | nil=>exact absurd hl ne
    | cons a l=>exact (fstAt_yes (by omega)).symm
  · show (B ++ idle (max k 7)).drop n=(idle (max k 7)).drop k ++ ([]:List (List UInt8)).flatten
    rw [List.drop_append,List.drop_of_length_le (by omega),hk]
    simp
  · show ((B ++ idle (max k 7)).drop n).length=((idle (max k 7)).drop k).length
    rw [List.length_drop,List.length_drop,List.length_append]
    omega
  show cutG (G ++ [B.length]) n _=starts _ []
  have:=cutG_split (A:=G ++ [B.length]) (C:=[]) (n:=n) (m:=(B ++ idle (max k 7)).length) (fun x hx=>by
    rcases List.mem_append.1 hx with e | e
    · have:=GL x e; omega
    have:=List.mem_singleton.1 e; omega) (fun x hx=>by cases hx)
  rw [List.append_nil] at this
  rw [this]
  rfl
end Go.Proofs.YtchfkncbemjepaaGreat.Tm
/- Layer 10, pure: a frame in which bits are inverted, all of them within 16 consecutive ones, is not accepted. -/
namespace Go.Proofs.YtchfkncbemjepaaGreat.Tm

end Go.Proofs.YtchfkncbemjepaaGreat.Tm
