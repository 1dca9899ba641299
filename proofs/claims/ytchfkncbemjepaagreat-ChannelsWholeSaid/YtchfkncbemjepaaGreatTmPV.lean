/- TmPV -/
import Derived.Test.YtchfkncbemjepaaGreatTmGd
set_option linter.unusedVariables false
set_option maxRecDepth 100000
/- Layer 10: the landed filler with the blocks in which it lies. -/
namespace Go.Proofs.YtchfkncbemjepaaGreat
open Go.RowKit

def PV (w:World) (n0 X n:Nat) (s:Tm.Fl) (va vb:Value):Prop:=∃ B G r,PFl w n0 X n r va vb B G/\Tm.Rel s B G r
section
variable {w w':World} {n0 X n:Nat} {s:Tm.Fl} {va vb:Value}
theorem PV.keep (h:PV w n0 X n s va vb) (hs:∀ g,SX X va vb g->w'.heap[g]?=w.heap[g]?):PV w' n0 X n s va vb:=by
  obtain ⟨B,G,r,h1,h2⟩:=h
  exact ⟨B,G,r,h1.keep hs,h2⟩
theorem PV.ty (h:PV w n0 X n s va vb) {g:Nat} (hg:SX X va vb g):∃ t,t ∈ XTs/\TyB w g t:=by
  obtain ⟨B,G,r,h1,h2⟩:=h
  rcases hg with rfl | hg | hg
  · exact ⟨_,by simp,h1.ty⟩
  · exact ⟨_,by simp,(h1.ba.blk hg).2⟩
  exact ⟨_,by simp,(h1.be.blk hg).2⟩
theorem PV.lt (h:PV w n0 X n s va vb) {g:Nat} (hg:SX X va vb g):g < w.heap.size:=by
  obtain ⟨t,_,T⟩:=h.ty hg
  exact T.lt
theorem PV.below (h:PV w n0 X n s va vb) (hb:Below w.heap.size w w'):PV w' n0 X n s va vb:=h.keep (fun g hg=>hb.block g (h.lt hg))
theorem vnext (h:PV w n0 X n s va vb) (g:Gd s) (hn:32<=n/\n<=200) (hn0:n0<=w.heap.size):
    Calls Tryz.prog 42 #[.pointer (some ⟨X,0,none⟩)] w fun e w'=>e=.returned (nxV n s)/\∃ va' vb',PV w' n0 X n (nxS n s) va' vb'/\KF n0 (SX X va vb) (SX X va' vb') w w':=by
  obtain ⟨B,G,r,h1,h2⟩:=h
  obtain ⟨b1,b2,b3,b4,b5⟩:=g.bounds h2
  unfold nxV nxS
  by_cases hz:Tm.wait s.q=0
  · rw [if_pos hz,if_pos hz]
    refine (tnext_none h1 (by omega) (by omega) (by omega)).mono ?_
    rintro e w' ⟨rfl,m,rfl⟩
    have hb:Below w.heap.size w (w.drewN m):=below_drewN (Below.refl _ _) _
    exact ⟨rfl,va,vb,⟨B,G,r,h1.below hb,h2⟩,KF.of_below hb hn0⟩
  rw [if_neg hz,if_neg hz]
  obtain ⟨⟨A,T,out,u⟩,hw⟩:=g
  obtain ⟨c1,c2⟩:=Tm.Rel.next (idle:=idl) u h2 idl_len hn
  rw [next_idl] at c1 c2
  by_cases hf:n<=B.length
  · obtain ⟨e1,e2,e3⟩:=c1 hf
    refine (tnext_full h1 (by omega) (by omega) (by omega) (fun x hx=>Nat.le_trans (b5 x hx) (by omega)) hn hn0 (by omega) hf).mono ?_
    rintro e w' ⟨rfl,va',vb',p,k⟩
    exact ⟨by rw [e1,e2],va',vb',⟨_,_,_,p,e3⟩,k⟩
  obtain ⟨e1,e2,e3⟩:=c2 (by omega)
  rw [idl_max] at e1 e3
  refine (tnext_idle h1 (by omega) (by omega) (by omega) (fun x hx=>Nat.le_trans (b5 x hx) (by omega)) hn hn0 (by omega) (by omega) (tmIdle (max (n - B.length) 7)) rfl).mono ?_
  rintro e w' ⟨rfl,va',vb',p,k⟩
  exact ⟨by rw [e1,e2],va',vb',⟨_,_,_,p,e3⟩,k⟩
theorem vadd (h:PV w n0 X n s va vb) (g:Gd s) (hn0:n0<=w.heap.size) (p:ByteArray) (hp:p.size<=2000):
    Calls Tryz.prog 37 #[.pointer (some ⟨X,0,none⟩),.string p] w fun e w'=>e=.returned (.int .i64 (acV s p))/\∃ va' vb',PV w' n0 X n (asS s p) va' vb'/\KF n0 (SX X va vb) (SX X va' vb') w w':=by
  obtain ⟨B,G,r,h1,h2⟩:=h
  obtain ⟨b1,b2,b3,b4,b5⟩:=g.bounds h2
  unfold acV asS
  by_cases hb:Pk.busy p.data.toList=true
  · rw [if_pos hb]
    by_cases hf:65536 < Tm.wait s.q + p.size
    · rw [if_pos hf,if_neg (fun q=>q.2 hf)]
      refine (tAdd_full h1 (by omega) (by omega) p (by omega) hb (by omega)).mono ?_
      rintro e w' ⟨rfl,k⟩
      exact ⟨rfl,va,vb,⟨B,G,r,h1.below k,h2⟩,KF.of_below k hn0⟩
    rw [if_neg hf,if_pos ⟨hb,hf⟩]
    refine (tAdd_ok h1 (by omega) (by omega) (by omega) hn0 p (busy_pos hb) hb (by omega)).mono ?_
    rintro e w' ⟨rfl,va',vb',q,k⟩
    obtain ⟨⟨A,T,out,u⟩,hw⟩:=g
    exact ⟨rfl,va',vb',⟨_,_,_,q,h2.add u.bgq p.data.toList⟩,k⟩
  have hbf:Pk.busy p.data.toList=false:=by simpa using hb
  rw [if_neg hb,if_neg (fun q=>hb q.1)]
  refine (tAdd_form h1 p (by omega) hbf).mono ?_
  rintro e w' ⟨rfl,k⟩
  exact ⟨rfl,va,vb,⟨B,G,r,h1.below k,h2⟩,KF.of_below k hn0⟩
end
end Go.Proofs.YtchfkncbemjepaaGreat
