/- ChFrm -/
import Derived.Test.YtchfkncbemjepaaGreatChShP
set_option linter.unusedVariables false
/- Layer 11, pure: the frame of a mux is valid. -/
namespace Go.Proofs.YtchfkncbemjepaaGreat.Ch
open Go.Proofs.YtchfkncbemjepaaGreat

theorem pull_fst:∀ (q:List (List UInt8)) (bg:Bool) (room pos fst:Nat),(Tm.pull q bg room pos fst).2.1=fst\/(Tm.pull q bg room pos fst).2.1 < pos + room
  | [],bg,room,pos,fst=>.inl rfl
  | p :: q,bg,room,pos,fst=>by
    unfold Tm.pull
    by_cases h0:room=0
    · rw [if_pos h0]; exact .inl rfl
    rw [if_neg h0]
    by_cases h1:p.length<=room
    · rw [if_pos h1]
      have ih:=pull_fst q false (room - p.length) (pos + p.length) (if bg=false/\fst=2047 then pos else fst)
      rcases ih with e | e
      · by_cases g:bg=false/\fst=2047
        · rw [if_pos g] at e
          refine .inr ?_
          show (Tm.pull q false (room - p.length) (pos + p.length) (if bg=false/\fst=2047 then pos else fst)).2.1 < _
          rw [if_pos g,e]
          omega
        rw [if_neg g] at e
        refine .inl ?_
        show (Tm.pull q false (room - p.length) (pos + p.length) (if bg=false/\fst=2047 then pos else fst)).2.1=_
        rw [if_neg g]
        exact e
      refine .inr (Nat.lt_of_lt_of_le e (by omega))
    rw [if_neg h1]
    by_cases g:bg=false/\fst=2047
    · rw [if_pos g]
      exact .inr (by show pos < _; omega)
    rw [if_neg g]
    exact .inl rfl
theorem next_fst {idle:Nat->List UInt8} {n:Nat} {s:Tm.Fl} (hr:s.re.length<=n):(Tm.next idle n s).2.1=2047\/(Tm.next idle n s).2.1 < n:=by
  have h:=pull_fst s.q s.bg (n - s.re.length) s.re.length 2047
  rw [show s.re.length + (n - s.re.length)=n by omega] at h
  unfold Tm.next
  by_cases g:n<=s.re.length + Tm.wait s.q
  · rw [if_pos g]
    exact h
  rw [if_neg g]
  show (if _ then _ else _)=2047\/(if _ then _ else _) < n
  split
  · exact .inr (Nat.lt_of_not_le g)
  exact h
theorem rest_le {s:Tm.Fl} (g:Gd s):s.re.length<=6:=by
  obtain ⟨⟨A,T,out,u⟩,_⟩:=g
  exact u.short
theorem nxt_len {n:Nat} {s:Tm.Fl} (g:Gd s) (hn:32<=n):(Tm.next tmIdle n s).1.length=n:=by
  rw [<-next_idl]
  exact Tm.next_len idl_len (by have:=rest_le g; omega)
namespace Mx
theorem dat_len {x:Mx} (h:x.Ok):x.dat.length=x.n:=by
  unfold dat
  split
  · exact List.length_replicate
  exact nxt_len (h.fl _ x.ch_lt) h.n1
theorem fst_ok {x:Mx} (h:x.Ok):x.fst < x.n\/x.fst=2046\/x.fst=2047:=by
  unfold fst
  split
  · exact .inr (.inl rfl)
  have:=rest_le (h.fl _ x.ch_lt)
  have:=h.n1
  rcases next_fst (idle:=tmIdle) (n:=x.n) (s:=x.fl x.ch) (by omega) with e | e
  · exact .inr (.inr e)
  exact .inl e
theorem frm_ok {x:Mx} (h:x.Ok) (word:Nat):Tm.Ok (x.frm word):=by
  have hs:(bs x.dat).size=x.n:=by rw [bs_size,dat_len h]
  have hc:=x.ch_lt
  have:=h.ct _ hc
  have:=h.ma
  have:=h.cf
  have:=h.n1
  have:=h.n2
  unfold frm Tm.Ok
  simp only
  rw [hs]
  refine ⟨⟨⟨by omega,by omega⟩,⟨by omega,by omega⟩,⟨by omega,by omega⟩,⟨by omega,by omega⟩,by omega,by omega⟩,?_⟩
  rcases fst_ok h with e | e | e
  · exact .inl ⟨by omega,by omega⟩
  · exact .inr (.inl (by omega))
  exact .inr (.inr (by omega))
end Mx
end Go.Proofs.YtchfkncbemjepaaGreat.Ch
