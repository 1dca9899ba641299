/- ChWhT -/
import Derived.Test.YtchfkncbemjepaaGreatChWhR
set_option linter.unusedVariables false
set_option maxRecDepth 100000
set_option maxHeartbeats 4000000
/- Layer 11's laws: drawn regions of transmit (ChannelsWhole). -/
namespace Go.Proofs.YtchfkncbemjepaaGreat
open Go.RowKit
set_option linter.unusedSimpArgs false

def Wt (n5 G M:Nat) (T:Nat->Prop) (W0:World) (z:Sz) (Pp Oo Fr To:List Value) (p:ByteArray) (c:Nat) (R:List Rw) (b1:Nat) (v1:Value) (b2:Nat) (v2:Value) (b3:Nat) (v3:Value) (b4:Nat) (v4:Value) (m10 m11 m18 m19 m25 m26 m32 m33 m37 m41 m45 m49:Bool) (w:World):Prop:=
  SW n5 G T W0 ([⟨cond m11 v1 z.v3,9,cond m11 (Pp ++ [.string p]) Pp⟩,⟨cond m19 v2 z.v4,3,cond m19 (Oo ++ [.int .i64 (c:Nat)]) Oo⟩,⟨cond m26 v3 z.v5,3,cond m26 (Fr ++ [.int .i64 (-1)]) Fr⟩,⟨cond m33 v4 z.v6,3,cond m33 (To ++ [.int .i64 (-1)]) To⟩,⟨cond m10 (.slice (some ⟨b1,0,none⟩) 1 1) (.slice none 0 0),9,cond m10 [.string p] []⟩,⟨cond m18 (.slice (some ⟨b2,0,none⟩) 1 1) (.slice none 0 0),3,cond m18 [.int .i64 (c:Nat)] []⟩,⟨cond m25 (.slice (some ⟨b3,0,none⟩) 1 1) (.slice none 0 0),3,cond m25 [.int .i64 (-1)] []⟩,⟨cond m32 (.slice (some ⟨b4,0,none⟩) 1 1) (.slice none 0 0),3,cond m32 [.int .i64 (-1)] []⟩] ++ R) (sC M { z with v3:=cond m37 v1 z.v3,v4:=cond m41 v2 z.v4,v5:=cond m45 v3 z.v5,v6:=cond m49 v4 z.v6 }) w
theorem sC_v3 (M:Nat) (z:Sz) (v:Value) (j:Nat):(if j=3 then v else sC M z j)=sC M { z with v3:=v } j:=by
  by_cases h:j=3
  · subst h; rfl
  rw [if_neg h]
  unfold sC
  split <;> first | rfl | exact absurd rfl h
theorem sC_v4 (M:Nat) (z:Sz) (v:Value) (j:Nat):(if j=4 then v else sC M z j)=sC M { z with v4:=v } j:=by
  by_cases h:j=4
  · subst h; rfl
  rw [if_neg h]
  unfold sC
  split <;> first | rfl | exact absurd rfl h
theorem sC_v5 (M:Nat) (z:Sz) (v:Value) (j:Nat):(if j=5 then v else sC M z j)=sC M { z with v5:=v } j:=by
  by_cases h:j=5
  · subst h; rfl
  rw [if_neg h]
  unfold sC
  split <;> first | rfl | exact absurd rfl h
theorem sC_v6 (M:Nat) (z:Sz) (v:Value) (j:Nat):(if j=6 then v else sC M z j)=sC M { z with v6:=v } j:=by
  by_cases h:j=6
  · subst h; rfl
  rw [if_neg h]
  unfold sC
  split <;> first | rfl | exact absurd rfl h
theorem sC_v7 (M:Nat) (z:Sz) (v:Value) (j:Nat):(if j=24 then v else sC M z j)=sC M { z with v7:=v } j:=by
  by_cases h:j=24
  · subst h; rfl
  rw [if_neg h]
  unfold sC
  split <;> first | rfl | exact absurd rfl h
section
variable {n5 G M:Nat} {T:Nat->Prop} {W0 w':World} {z:Sz} {Pp Oo Fr To:List Value} {p:ByteArray} {c:Nat} {R:List Rw} {b1 b2 b3 b4:Nat} {v1 v2 v3 v4:Value} {m10 m11 m18 m19 m25 m26 m32 m33 m37 m41 m45 m49:Bool} {ev:Operand->Value} {oo:Oper}
theorem tapp1 (h5:ev (.tmp 81)=z.v3) (h7:ev (.tmp 83)=.slice (some ⟨b1,0,none⟩) 1 1) (e1:oo.op=.call { callee:=.builtin .append,args:=#[.tmp 81,.tmp 83],argTypes:=#[43,43] }) (hF:Pp.length<=1000000) (d:m10=true) (n:m37=false)
    (h:Wt n5 G M T W0 z Pp Oo Fr To p c R b1 v1 b2 v2 b3 v3 b4 v4 m10 false m18 m19 m25 m26 m32 m33 m37 m41 m45 m49 w'):∃ v' w2,(execOp ev oo).run Tryz.prog w'=.ok (.value v') w2/\Wt n5 G M T W0 z Pp Oo Fr To p c R b1 v' b2 v2 b3 v3 b4 v4 m10 true m18 m19 m25 m26 m32 m33 m37 m41 m45 m49 w2:=by
  subst d n
  obtain ⟨ti,hi,hz,hs,hy⟩:=info_parts info_str
  obtain ⟨v',w2,hr,k⟩:=SW.app h (i:=0) (k:=4) rfl rfl rfl 43 oo.type Tryz.underlying43 hi hz hs hy rfl hF (by omega)
  exact ⟨v',w2,exec_append e1 h5 h7 hr,k⟩
theorem tsl1 (d:m11=true) (h:Wt n5 G M T W0 z Pp Oo Fr To p c R b1 v1 b2 v2 b3 v3 b4 v4 m10 m11 m18 m19 m25 m26 m32 m33 false m41 m45 m49 w'):∃ a n c,v1=.slice a n c:=by
  subst d
  exact SW.is h (i:=0) rfl
theorem tput1 (d:m11=true) (h:Wt n5 G M T W0 z Pp Oo Fr To p c R b1 v1 b2 v2 b3 v3 b4 v4 m10 m11 m18 m19 m25 m26 m32 m33 false m41 m45 m49 w'):∃ u,w'.cell? ⟨G,3,none⟩=some u/\w'.frozen? ⟨G,3,none⟩=false/\Wt n5 G M T W0 z Pp Oo Fr To p c R b1 v1 b2 v2 b3 v3 b4 v4 m10 m11 m18 m19 m25 m26 m32 m33 true m41 m45 m49 (w'.setCell ⟨G,3,none⟩ v1):=
  ⟨_,h.cel.cell (by omega),h.cel.frozen (by omega),(SW.put h 3 v1).congr (fun j _=>sC_v3 M _ v1 j)⟩
theorem tapp2 (h5:ev (.tmp 89)=z.v4) (h7:ev (.tmp 91)=.slice (some ⟨b2,0,none⟩) 1 1) (e1:oo.op=.call { callee:=.builtin .append,args:=#[.tmp 89,.tmp 91],argTypes:=#[72,72] }) (hF:Oo.length<=1000000) (d:m18=true) (n:m41=false)
    (h:Wt n5 G M T W0 z Pp Oo Fr To p c R b1 v1 b2 v2 b3 v3 b4 v4 m10 m11 m18 false m25 m26 m32 m33 m37 m41 m45 m49 w'):∃ v' w2,(execOp ev oo).run Tryz.prog w'=.ok (.value v') w2/\Wt n5 G M T W0 z Pp Oo Fr To p c R b1 v1 b2 v' b3 v3 b4 v4 m10 m11 m18 true m25 m26 m32 m33 m37 m41 m45 m49 w2:=by
  subst d n
  obtain ⟨ti,hi,hz,hs,hy⟩:=info_parts info_in
  obtain ⟨v',w2,hr,k⟩:=SW.app h (i:=1) (k:=5) rfl rfl rfl 72 oo.type Tryz.underlying72 hi hz hs hy rfl hF (by omega)
  exact ⟨v',w2,exec_append e1 h5 h7 hr,k⟩
theorem tsl2 (d:m19=true) (h:Wt n5 G M T W0 z Pp Oo Fr To p c R b1 v1 b2 v2 b3 v3 b4 v4 m10 m11 m18 m19 m25 m26 m32 m33 m37 false m45 m49 w'):∃ a n c,v2=.slice a n c:=by
  subst d
  exact SW.is h (i:=1) rfl
theorem tput2 (d:m19=true) (h:Wt n5 G M T W0 z Pp Oo Fr To p c R b1 v1 b2 v2 b3 v3 b4 v4 m10 m11 m18 m19 m25 m26 m32 m33 m37 false m45 m49 w'):∃ u,w'.cell? ⟨G,4,none⟩=some u/\w'.frozen? ⟨G,4,none⟩=false/\Wt n5 G M T W0 z Pp Oo Fr To p c R b1 v1 b2 v2 b3 v3 b4 v4 m10 m11 m18 m19 m25 m26 m32 m33 m37 true m45 m49 (w'.setCell ⟨G,4,none⟩ v2):=
  ⟨_,h.cel.cell (by omega),h.cel.frozen (by omega),(SW.put h 4 v2).congr (fun j _=>sC_v4 M _ v2 j)⟩
theorem tapp3 (h5:ev (.tmp 97)=z.v5) (h7:ev (.tmp 98)=.slice (some ⟨b3,0,none⟩) 1 1) (e1:oo.op=.call { callee:=.builtin .append,args:=#[.tmp 97,.tmp 98],argTypes:=#[72,72] }) (hF:Fr.length<=1000000) (d:m25=true) (n:m45=false)
    (h:Wt n5 G M T W0 z Pp Oo Fr To p c R b1 v1 b2 v2 b3 v3 b4 v4 m10 m11 m18 m19 m25 false m32 m33 m37 m41 m45 m49 w'):∃ v' w2,(execOp ev oo).run Tryz.prog w'=.ok (.value v') w2/\Wt n5 G M T W0 z Pp Oo Fr To p c R b1 v1 b2 v2 b3 v' b4 v4 m10 m11 m18 m19 m25 true m32 m33 m37 m41 m45 m49 w2:=by
  subst d n
  obtain ⟨ti,hi,hz,hs,hy⟩:=info_parts info_in
  obtain ⟨v',w2,hr,k⟩:=SW.app h (i:=2) (k:=6) rfl rfl rfl 72 oo.type Tryz.underlying72 hi hz hs hy rfl hF (by omega)
  exact ⟨v',w2,exec_append e1 h5 h7 hr,k⟩
theorem tsl3 (d:m26=true) (h:Wt n5 G M T W0 z Pp Oo Fr To p c R b1 v1 b2 v2 b3 v3 b4 v4 m10 m11 m18 m19 m25 m26 m32 m33 m37 m41 false m49 w'):∃ a n c,v3=.slice a n c:=by
  subst d
  exact SW.is h (i:=2) rfl
theorem tput3 (d:m26=true) (h:Wt n5 G M T W0 z Pp Oo Fr To p c R b1 v1 b2 v2 b3 v3 b4 v4 m10 m11 m18 m19 m25 m26 m32 m33 m37 m41 false m49 w'):∃ u,w'.cell? ⟨G,5,none⟩=some u/\w'.frozen? ⟨G,5,none⟩=false/\Wt n5 G M T W0 z Pp Oo Fr To p c R b1 v1 b2 v2 b3 v3 b4 v4 m10 m11 m18 m19 m25 m26 m32 m33 m37 m41 true m49 (w'.setCell ⟨G,5,none⟩ v3):=
  ⟨_,h.cel.cell (by omega),h.cel.frozen (by omega),(SW.put h 5 v3).congr (fun j _=>sC_v5 M _ v3 j)⟩
theorem tapp4 (h5:ev (.tmp 104)=z.v6) (h7:ev (.tmp 105)=.slice (some ⟨b4,0,none⟩) 1 1) (e1:oo.op=.call { callee:=.builtin .append,args:=#[.tmp 104,.tmp 105],argTypes:=#[72,72] }) (hF:To.length<=1000000) (d:m32=true) (n:m49=false)
    (h:Wt n5 G M T W0 z Pp Oo Fr To p c R b1 v1 b2 v2 b3 v3 b4 v4 m10 m11 m18 m19 m25 m26 m32 false m37 m41 m45 m49 w'):∃ v' w2,(execOp ev oo).run Tryz.prog w'=.ok (.value v') w2/\Wt n5 G M T W0 z Pp Oo Fr To p c R b1 v1 b2 v2 b3 v3 b4 v' m10 m11 m18 m19 m25 m26 m32 true m37 m41 m45 m49 w2:=by
  subst d n
  obtain ⟨ti,hi,hz,hs,hy⟩:=info_parts info_in
  obtain ⟨v',w2,hr,k⟩:=SW.app h (i:=3) (k:=7) rfl rfl rfl 72 oo.type Tryz.underlying72 hi hz hs hy rfl hF (by omega)
  exact ⟨v',w2,exec_append e1 h5 h7 hr,k⟩
theorem tsl4 (d:m33=true) (h:Wt n5 G M T W0 z Pp Oo Fr To p c R b1 v1 b2 v2 b3 v3 b4 v4 m10 m11 m18 m19 m25 m26 m32 m33 m37 m41 m45 false w'):∃ a n c,v4=.slice a n c:=by
  subst d
  exact SW.is h (i:=3) rfl
theorem tput4 (d:m33=true) (h:Wt n5 G M T W0 z Pp Oo Fr To p c R b1 v1 b2 v2 b3 v3 b4 v4 m10 m11 m18 m19 m25 m26 m32 m33 m37 m41 m45 false w'):∃ u,w'.cell? ⟨G,6,none⟩=some u/\w'.frozen? ⟨G,6,none⟩=false/\Wt n5 G M T W0 z Pp Oo Fr To p c R b1 v1 b2 v2 b3 v3 b4 v4 m10 m11 m18 m19 m25 m26 m32 m33 m37 m41 m45 true (w'.setCell ⟨G,6,none⟩ v4):=
  ⟨_,h.cel.cell (by omega),h.cel.frozen (by omega),(SW.put h 6 v4).congr (fun j _=>sC_v6 M _ v4 j)⟩
end
structure SwRegion12 (n5 G M:Nat) (T:Nat->Prop) (W0:World) (z:Sz) (Pp Oo Fr To:List Value) (p:ByteArray) (c:Nat) (R:List Rw) (b1:Nat) (v1:Value) (b2:Nat) (v2:Value) (b3:Nat) (v3:Value) (b4:Nat) (v4:Value) (A:Act) (w0:World) (s:Nat->Bool) (a:Act) (w:World):Prop where
  off:Off [73,74,75,76,77,78,79,80,81,82,83,84,85,86,87,88,89,90,91,92,93,94,95,96,97,98,99,100,101,102,103,104,105,106,107,108,109,110,111,112,113,114,115,116,117,118] a A
  before:Wt n5 G M T W0 z Pp Oo Fr To p c R b1 v1 b2 v2 b3 v3 b4 v4 (s 10) (s 11) (s 18) (s 19) (s 25) (s 26) (s 32) (s 33) (s 37) (s 41) (s 45) false w
  t0:s 0=true->a.eval (.tmp 73)=.pointer (some ⟨G,0,none⟩)
  t1:s 1=true->a.eval (.tmp 74)=.pointer (some ⟨G,0,none⟩)
  t2:s 2=true->a.eval (.tmp 75)=.pointer (some ⟨G,0,none⟩)
  t3:s 3=true->a.eval (.tmp 76)=.pointer (some ⟨G,0,none⟩)
  t4:s 4=true->a.eval (.tmp 77)=.pointer (some ⟨G,0,none⟩)
  t5:s 5=true->a.eval (.tmp 78)=.pointer (some ⟨G,0,none⟩)
  t6:s 6=true->a.eval (.tmp 79)=.pointer (some ⟨G,1,none⟩)
  t7:s 7=true->a.eval (.tmp 80)=.pointer (some ⟨G,3,none⟩)
  t8:s 8=true->a.eval (.tmp 81)=z.v3
  t9:s 9=true->a.eval (.tmp 82)=.string p
  t10:s 10=true->a.eval (.tmp 83)=.slice (some ⟨b1,0,none⟩) 1 1
  t11:s 11=true->a.eval (.tmp 84)=v1
  t12:s 12=true->a.eval (.tmp 85)=.pointer (some ⟨G,0,none⟩)
  t13:s 13=true->a.eval (.tmp 86)=.pointer (some ⟨G,0,none⟩)
  t14:s 14=true->a.eval (.tmp 87)=.pointer (some ⟨G,1,none⟩)
  t15:s 15=true->a.eval (.tmp 88)=.pointer (some ⟨G,4,none⟩)
  t16:s 16=true->a.eval (.tmp 89)=z.v4
  t17:s 17=true->a.eval (.tmp 90)=.int .i64 (c:Nat)
  t18:s 18=true->a.eval (.tmp 91)=.slice (some ⟨b2,0,none⟩) 1 1
  t19:s 19=true->a.eval (.tmp 92)=v2
  t20:s 20=true->a.eval (.tmp 93)=.pointer (some ⟨G,0,none⟩)
  t21:s 21=true->a.eval (.tmp 94)=.pointer (some ⟨G,0,none⟩)
  t22:s 22=true->a.eval (.tmp 95)=.pointer (some ⟨G,1,none⟩)
  t23:s 23=true->a.eval (.tmp 96)=.pointer (some ⟨G,5,none⟩)
  t24:s 24=true->a.eval (.tmp 97)=z.v5
  t25:s 25=true->a.eval (.tmp 98)=.slice (some ⟨b3,0,none⟩) 1 1
  t26:s 26=true->a.eval (.tmp 99)=v3
  t27:s 27=true->a.eval (.tmp 100)=.pointer (some ⟨G,0,none⟩)
  t28:s 28=true->a.eval (.tmp 101)=.pointer (some ⟨G,0,none⟩)
  t29:s 29=true->a.eval (.tmp 102)=.pointer (some ⟨G,1,none⟩)
  t30:s 30=true->a.eval (.tmp 103)=.pointer (some ⟨G,6,none⟩)
  t31:s 31=true->a.eval (.tmp 104)=z.v6
  t32:s 32=true->a.eval (.tmp 105)=.slice (some ⟨b4,0,none⟩) 1 1
  t33:s 33=true->a.eval (.tmp 106)=v4
  t34:s 34=true->a.eval (.tmp 107)=.pointer (some ⟨G,0,none⟩)
  t35:s 35=true->a.eval (.tmp 108)=.pointer (some ⟨G,1,none⟩)
  t36:s 36=true->a.eval (.tmp 109)=.pointer (some ⟨G,3,none⟩)
  t38:s 38=true->a.eval (.tmp 110)=.pointer (some ⟨G,0,none⟩)
  t39:s 39=true->a.eval (.tmp 111)=.pointer (some ⟨G,1,none⟩)
  t40:s 40=true->a.eval (.tmp 112)=.pointer (some ⟨G,4,none⟩)
  t42:s 42=true->a.eval (.tmp 113)=.pointer (some ⟨G,0,none⟩)
  t43:s 43=true->a.eval (.tmp 114)=.pointer (some ⟨G,1,none⟩)
  t44:s 44=true->a.eval (.tmp 115)=.pointer (some ⟨G,5,none⟩)
  t46:s 46=true->a.eval (.tmp 116)=.pointer (some ⟨G,0,none⟩)
  t47:s 47=true->a.eval (.tmp 117)=.pointer (some ⟨G,1,none⟩)
  t48:s 48=true->a.eval (.tmp 118)=.pointer (some ⟨G,6,none⟩)
theorem swRegion12 {id:Nat} {l:List Oper} {A:Act} {w:World} {Q:Exit->Act->World->Prop} (n5 G M:Nat) (T:Nat->Prop) (W0:World) (z:Sz) (Pp Oo Fr To:List Value) (p:ByteArray) (c:Nat) (R:List Rw)
    (hW0:Wt n5 G M T W0 z Pp Oo Fr To p c R 0 z.v3 0 z.v4 0 z.v5 0 z.v6 false false false false false false false false false false false false w.drew) (hz3:∃ a n c,z.v3=.slice a n c) (hl1:Pp.length<=1000000) (hz4:∃ a n c,z.v4=.slice a n c) (hl2:Oo.length<=1000000) (hz5:∃ a n c,z.v5=.slice a n c) (hl3:Fr.length<=1000000) (hz6:∃ a n c,z.v6=.slice a n c) (hl4:To.length<=1000000)
    (hB:tableH l.toArray 49 (fun i=>match i with | 0=>[] | 1=>[] | 2=>[] | 3=>[] | 4=>[] | 5=>[4] | 6=>[5] | 7=>[6] | 8=>[7] | 9=>[] | 10=>[9] | 11=>[8,10] | 12=>[] | 13=>[12] | 14=>[13] | 15=>[14] | 16=>[15] | 17=>[] | 18=>[17] | 19=>[16,18] | 20=>[] | 21=>[20] | 22=>[21] | 23=>[22] | 24=>[23] | 25=>[] | 26=>[24,25] | 27=>[] | 28=>[27] | 29=>[28] | 30=>[29] | 31=>[30] | 32=>[] | 33=>[31,32] | 34=>[0] | 35=>[34] | 36=>[35] | 37=>[36,11] | 38=>[1] | 39=>[38] | 40=>[39] | 41=>[40,19] | 42=>[2] | 43=>[42] | 44=>[43] | 45=>[44,26] | 46=>[3] | 47=>[46] | 48=>[47] | _=>[]) (fun i=>match i with | 8=>[37] | 10=>[11] | 11=>[37] | 16=>[41] | 18=>[19] | 19=>[41] | 24=>[45] | 25=>[26] | 26=>[45] | 32=>[33] | _=>[])=true)
    (h0:pick l 0=some (.move (.tmp 7),some 73))
    (h1:pick l 1=some (.move (.tmp 7),some 74))
    (h2:pick l 2=some (.move (.tmp 7),some 75))
    (h3:pick l 3=some (.move (.tmp 7),some 76))
    (h4:pick l 4=some (.move (.tmp 7),some 77))
    (h5:pick l 5=some (.nilCheck (.tmp 77),some 78))
    (h6:pick l 6=some (.fieldAddr 119 (.tmp 78) 1,some 79))
    (h7:pick l 7=some (.fieldAddr 74 (.tmp 79) 2,some 80))
    (h8:pick l 8=some (.load 43 (.tmp 80),some 81))
    (h9:pick l 9=some (.move (.tmp 10),some 82))
    (h10:pick l 10=some (.buildSlice 43 1 #[(0,.tmp 82)],some 83))
    (h11:pick l 11=some (.call { callee:=.builtin .append,args:=#[.tmp 81,.tmp 83],argTypes:=#[43,43] },some 84))
    (h12:pick l 12=some (.move (.tmp 7),some 85))
    (h13:pick l 13=some (.nilCheck (.tmp 85),some 86))
    (h14:pick l 14=some (.fieldAddr 119 (.tmp 86) 1,some 87))
    (h15:pick l 15=some (.fieldAddr 74 (.tmp 87) 3,some 88))
    (h16:pick l 16=some (.load 72 (.tmp 88),some 89))
    (h17:pick l 17=some (.move (.tmp 9),some 90))
    (h18:pick l 18=some (.buildSlice 72 1 #[(0,.tmp 90)],some 91))
    (h19:pick l 19=some (.call { callee:=.builtin .append,args:=#[.tmp 89,.tmp 91],argTypes:=#[72,72] },some 92))
    (h20:pick l 20=some (.move (.tmp 7),some 93))
    (h21:pick l 21=some (.nilCheck (.tmp 93),some 94))
    (h22:pick l 22=some (.fieldAddr 119 (.tmp 94) 1,some 95))
    (h23:pick l 23=some (.fieldAddr 74 (.tmp 95) 4,some 96))
    (h24:pick l 24=some (.load 72 (.tmp 96),some 97))
    (h25:pick l 25=some (.buildSlice 72 1 #[(0,.const (.int .i64 (-1)))],some 98))
    (h26:pick l 26=some (.call { callee:=.builtin .append,args:=#[.tmp 97,.tmp 98],argTypes:=#[72,72] },some 99))
    (h27:pick l 27=some (.move (.tmp 7),some 100))
    (h28:pick l 28=some (.nilCheck (.tmp 100),some 101))
    (h29:pick l 29=some (.fieldAddr 119 (.tmp 101) 1,some 102))
    (h30:pick l 30=some (.fieldAddr 74 (.tmp 102) 5,some 103))
    (h31:pick l 31=some (.load 72 (.tmp 103),some 104))
    (h32:pick l 32=some (.buildSlice 72 1 #[(0,.const (.int .i64 (-1)))],some 105))
    (h33:pick l 33=some (.call { callee:=.builtin .append,args:=#[.tmp 104,.tmp 105],argTypes:=#[72,72] },some 106))
    (h34:pick l 34=some (.nilCheck (.tmp 73),some 107))
    (h35:pick l 35=some (.fieldAddr 119 (.tmp 107) 1,some 108))
    (h36:pick l 36=some (.fieldAddr 74 (.tmp 108) 2,some 109))
    (h37:pick l 37=some (.store 43 (.tmp 109) (.tmp 84),none))
    (h38:pick l 38=some (.nilCheck (.tmp 74),some 110))
    (h39:pick l 39=some (.fieldAddr 119 (.tmp 110) 1,some 111))
    (h40:pick l 40=some (.fieldAddr 74 (.tmp 111) 3,some 112))
    (h41:pick l 41=some (.store 72 (.tmp 112) (.tmp 92),none))
    (h42:pick l 42=some (.nilCheck (.tmp 75),some 113))
    (h43:pick l 43=some (.fieldAddr 119 (.tmp 113) 1,some 114))
    (h44:pick l 44=some (.fieldAddr 74 (.tmp 114) 4,some 115))
    (h45:pick l 45=some (.store 72 (.tmp 115) (.tmp 99),none))
    (h46:pick l 46=some (.nilCheck (.tmp 76),some 116))
    (h47:pick l 47=some (.fieldAddr 119 (.tmp 116) 1,some 117))
    (h48:pick l 48=some (.fieldAddr 74 (.tmp 117) 5,some 118))
    (hs:A.tmps.size=197)
    (x7:A.eval (.tmp 7)=.pointer (some ⟨G,0,none⟩))
    (x9:A.eval (.tmp 9)=.int .i64 (c:Nat))
    (x10:A.eval (.tmp 10)=.string p)
    (h:∀ (b1:Nat) (v1:Value) (b2:Nat) (v2:Value) (b3:Nat) (v3:Value) (b4:Nat) (v4:Value) (w1:World),Wt n5 G M T W0 z Pp Oo Fr To p c R b1 v1 b2 v2 b3 v3 b4 v4 true true true true true true true true true true true false w1->wpList Tryz.prog l.toArray Q (l.drop 49) ((((((((((((((((((((((((((((((((((((((((((((((A.put (some 73) (.pointer (some ⟨G,0,none⟩))).put (some 74) (.pointer (some ⟨G,0,none⟩))).put (some 75) (.pointer (some ⟨G,0,none⟩))).put (some 76) (.pointer (some ⟨G,0,none⟩))).put (some 77) (.pointer (some ⟨G,0,none⟩))).put (some 78) (.pointer (some ⟨G,0,none⟩))).put (some 79) (.pointer (some ⟨G,1,none⟩))).put (some 80) (.pointer (some ⟨G,3,none⟩))).put (some 81) (z.v3)).put (some 82) (.string p)).put (some 83) (.slice (some ⟨b1,0,none⟩) 1 1)).put (some 84) (v1)).put (some 85) (.pointer (some ⟨G,0,none⟩))).put (some 86) (.pointer (some ⟨G,0,none⟩))).put (some 87) (.pointer (some ⟨G,1,none⟩))).put (some 88) (.pointer (some ⟨G,4,none⟩))).put (some 89) (z.v4)).put (some 90) (.int .i64 (c:Nat))).put (some 91) (.slice (some ⟨b2,0,none⟩) 1 1)).put (some 92) (v2)).put (some 93) (.pointer (some ⟨G,0,none⟩))).put (some 94) (.pointer (some ⟨G,0,none⟩))).put (some 95) (.pointer (some ⟨G,1,none⟩))).put (some 96) (.pointer (some ⟨G,5,none⟩))).put (some 97) (z.v5)).put (some 98) (.slice (some ⟨b3,0,none⟩) 1 1)).put (some 99) (v3)).put (some 100) (.pointer (some ⟨G,0,none⟩))).put (some 101) (.pointer (some ⟨G,0,none⟩))).put (some 102) (.pointer (some ⟨G,1,none⟩))).put (some 103) (.pointer (some ⟨G,6,none⟩))).put (some 104) (z.v6)).put (some 105) (.slice (some ⟨b4,0,none⟩) 1 1)).put (some 106) (v4)).put (some 107) (.pointer (some ⟨G,0,none⟩))).put (some 108) (.pointer (some ⟨G,1,none⟩))).put (some 109) (.pointer (some ⟨G,3,none⟩))).put (some 110) (.pointer (some ⟨G,0,none⟩))).put (some 111) (.pointer (some ⟨G,1,none⟩))).put (some 112) (.pointer (some ⟨G,4,none⟩))).put (some 113) (.pointer (some ⟨G,0,none⟩))).put (some 114) (.pointer (some ⟨G,1,none⟩))).put (some 115) (.pointer (some ⟨G,5,none⟩))).put (some 116) (.pointer (some ⟨G,0,none⟩))).put (some 117) (.pointer (some ⟨G,1,none⟩))).put (some 118) (.pointer (some ⟨G,6,none⟩))) w1):
    (Code.region id l.toArray true).wp Tryz.prog Q A w:=by
  refine wp_region_head (by kernel_rfl) _ _ _ hB (fun s a w'=>∃ (b1:Nat) (v1:Value) (b2:Nat) (v2:Value) (b3:Nat) (v3:Value) (b4:Nat) (v4:Value),SwRegion12 n5 G M T W0 z Pp Oo Fr To p c R b1 v1 b2 v2 b3 v3 b4 v4 A w s a w') ⟨0,z.v3,0,z.v4,0,z.v5,0,z.v6,Off.refl _ _,hW0,by simp,by simp,by simp,by simp,by simp,by simp,by simp,by simp,by simp,by simp,by simp,by simp,by simp,by simp,by simp,by simp,by simp,by simp,by simp,by simp,by simp,by simp,by simp,by simp,by simp,by simp,by simp,by simp,by simp,by simp,by simp,by simp,by simp,by simp,by simp,by simp,by simp,by simp,by simp,by simp,by simp,by simp,by simp,by simp,by simp,by simp⟩ ?_ ?_
  · intro s a w' ⟨b1,v1,b2,v2,b3,v3,b4,v4,S⟩ i' o il ho hsi hT K hK
    have sz:a.tmps.size=197:=by rw [S.off.2.1]; exact hs
    have y7:a.eval (.tmp 7)=.pointer (some ⟨G,0,none⟩):=by rw [S.off.eval (by decide)]; exact x7
    have y9:a.eval (.tmp 9)=.int .i64 (c:Nat):=by rw [S.off.eval (by decide)]; exact x9
    have y10:a.eval (.tmp 10)=.string p:=by rw [S.off.eval (by decide)]; exact x10
    match i',il,ho,hsi,hT with
    | 0,_,ho,hsi,hT=>
      obtain ⟨e1,e2⟩:=pick_of h0 ho
      refine step_val (v:=.pointer (some ⟨G,0,none⟩)) (by simp only [execOp,e1,y7]; go_simp) (hK _ _ ?_)
      rw [e2]
      exact ⟨_,_,_,_,_,_,_,_,ofp S.off,by simpa using S.before,ev_ (by omega),kp S.t1,kp S.t2,kp S.t3,kp S.t4,kp S.t5,kp S.t6,kp S.t7,kp S.t8,kp S.t9,kp S.t10,kp S.t11,kp S.t12,kp S.t13,kp S.t14,kp S.t15,kp S.t16,kp S.t17,kp S.t18,kp S.t19,kp S.t20,kp S.t21,kp S.t22,kp S.t23,kp S.t24,kp S.t25,kp S.t26,kp S.t27,kp S.t28,kp S.t29,kp S.t30,kp S.t31,kp S.t32,kp S.t33,kp S.t34,kp S.t35,kp S.t36,kp S.t38,kp S.t39,kp S.t40,kp S.t42,kp S.t43,kp S.t44,kp S.t46,kp S.t47,kp S.t48⟩
    | 1,_,ho,hsi,hT=>
      obtain ⟨e1,e2⟩:=pick_of h1 ho
      refine step_val (v:=.pointer (some ⟨G,0,none⟩)) (by simp only [execOp,e1,y7]; go_simp) (hK _ _ ?_)
      rw [e2]
      exact ⟨_,_,_,_,_,_,_,_,ofp S.off,by simpa using S.before,kp S.t0,ev_ (by omega),kp S.t2,kp S.t3,kp S.t4,kp S.t5,kp S.t6,kp S.t7,kp S.t8,kp S.t9,kp S.t10,kp S.t11,kp S.t12,kp S.t13,kp S.t14,kp S.t15,kp S.t16,kp S.t17,kp S.t18,kp S.t19,kp S.t20,kp S.t21,kp S.t22,kp S.t23,kp S.t24,kp S.t25,kp S.t26,kp S.t27,kp S.t28,kp S.t29,kp S.t30,kp S.t31,kp S.t32,kp S.t33,kp S.t34,kp S.t35,kp S.t36,kp S.t38,kp S.t39,kp S.t40,kp S.t42,kp S.t43,kp S.t44,kp S.t46,kp S.t47,kp S.t48⟩
    | 2,_,ho,hsi,hT=>
      obtain ⟨e1,e2⟩:=pick_of h2 ho
      refine step_val (v:=.pointer (some ⟨G,0,none⟩)) (by simp only [execOp,e1,y7]; go_simp) (hK _ _ ?_)
      rw [e2]
      exact ⟨_,_,_,_,_,_,_,_,ofp S.off,by simpa using S.before,kp S.t0,kp S.t1,ev_ (by omega),kp S.t3,kp S.t4,kp S.t5,kp S.t6,kp S.t7,kp S.t8,kp S.t9,kp S.t10,kp S.t11,kp S.t12,kp S.t13,kp S.t14,kp S.t15,kp S.t16,kp S.t17,kp S.t18,kp S.t19,kp S.t20,kp S.t21,kp S.t22,kp S.t23,kp S.t24,kp S.t25,kp S.t26,kp S.t27,kp S.t28,kp S.t29,kp S.t30,kp S.t31,kp S.t32,kp S.t33,kp S.t34,kp S.t35,kp S.t36,kp S.t38,kp S.t39,kp S.t40,kp S.t42,kp S.t43,kp S.t44,kp S.t46,kp S.t47,kp S.t48⟩
    | 3,_,ho,hsi,hT=>
      obtain ⟨e1,e2⟩:=pick_of h3 ho
      refine step_val (v:=.pointer (some ⟨G,0,none⟩)) (by simp only [execOp,e1,y7]; go_simp) (hK _ _ ?_)
      rw [e2]
      exact ⟨_,_,_,_,_,_,_,_,ofp S.off,by simpa using S.before,kp S.t0,kp S.t1,kp S.t2,ev_ (by omega),kp S.t4,kp S.t5,kp S.t6,kp S.t7,kp S.t8,kp S.t9,kp S.t10,kp S.t11,kp S.t12,kp S.t13,kp S.t14,kp S.t15,kp S.t16,kp S.t17,kp S.t18,kp S.t19,kp S.t20,kp S.t21,kp S.t22,kp S.t23,kp S.t24,kp S.t25,kp S.t26,kp S.t27,kp S.t28,kp S.t29,kp S.t30,kp S.t31,kp S.t32,kp S.t33,kp S.t34,kp S.t35,kp S.t36,kp S.t38,kp S.t39,kp S.t40,kp S.t42,kp S.t43,kp S.t44,kp S.t46,kp S.t47,kp S.t48⟩
    | 4,_,ho,hsi,hT=>
      obtain ⟨e1,e2⟩:=pick_of h4 ho
      refine step_val (v:=.pointer (some ⟨G,0,none⟩)) (by simp only [execOp,e1,y7]; go_simp) (hK _ _ ?_)
      rw [e2]
      exact ⟨_,_,_,_,_,_,_,_,ofp S.off,by simpa using S.before,kp S.t0,kp S.t1,kp S.t2,kp S.t3,ev_ (by omega),kp S.t5,kp S.t6,kp S.t7,kp S.t8,kp S.t9,kp S.t10,kp S.t11,kp S.t12,kp S.t13,kp S.t14,kp S.t15,kp S.t16,kp S.t17,kp S.t18,kp S.t19,kp S.t20,kp S.t21,kp S.t22,kp S.t23,kp S.t24,kp S.t25,kp S.t26,kp S.t27,kp S.t28,kp S.t29,kp S.t30,kp S.t31,kp S.t32,kp S.t33,kp S.t34,kp S.t35,kp S.t36,kp S.t38,kp S.t39,kp S.t40,kp S.t42,kp S.t43,kp S.t44,kp S.t46,kp S.t47,kp S.t48⟩
    | 5,_,ho,hsi,hT=>
      obtain ⟨e1,e2⟩:=pick_of h5 ho
      have D4:s 4=true:=list_pos hT (d:=4) (by decide)
      refine step_val (v:=.pointer (some ⟨G,0,none⟩)) (by simp only [execOp,e1,S.t4 D4]; go_simp) (hK _ _ ?_)
      rw [e2]
      exact ⟨_,_,_,_,_,_,_,_,ofp S.off,by simpa using S.before,kp S.t0,kp S.t1,kp S.t2,kp S.t3,kp S.t4,ev_ (by omega),kp S.t6,kp S.t7,kp S.t8,kp S.t9,kp S.t10,kp S.t11,kp S.t12,kp S.t13,kp S.t14,kp S.t15,kp S.t16,kp S.t17,kp S.t18,kp S.t19,kp S.t20,kp S.t21,kp S.t22,kp S.t23,kp S.t24,kp S.t25,kp S.t26,kp S.t27,kp S.t28,kp S.t29,kp S.t30,kp S.t31,kp S.t32,kp S.t33,kp S.t34,kp S.t35,kp S.t36,kp S.t38,kp S.t39,kp S.t40,kp S.t42,kp S.t43,kp S.t44,kp S.t46,kp S.t47,kp S.t48⟩
    | 6,_,ho,hsi,hT=>
      obtain ⟨e1,e2⟩:=pick_of h6 ho
      have D5:s 5=true:=list_pos hT (d:=5) (by decide)
      refine step_val (v:=.pointer (some ⟨G,1,none⟩)) (by simp only [execOp,e1,S.t5 D5]; go_simp) (hK _ _ ?_)
      rw [e2]
      exact ⟨_,_,_,_,_,_,_,_,ofp S.off,by simpa using S.before,kp S.t0,kp S.t1,kp S.t2,kp S.t3,kp S.t4,kp S.t5,ev_ (by omega),kp S.t7,kp S.t8,kp S.t9,kp S.t10,kp S.t11,kp S.t12,kp S.t13,kp S.t14,kp S.t15,kp S.t16,kp S.t17,kp S.t18,kp S.t19,kp S.t20,kp S.t21,kp S.t22,kp S.t23,kp S.t24,kp S.t25,kp S.t26,kp S.t27,kp S.t28,kp S.t29,kp S.t30,kp S.t31,kp S.t32,kp S.t33,kp S.t34,kp S.t35,kp S.t36,kp S.t38,kp S.t39,kp S.t40,kp S.t42,kp S.t43,kp S.t44,kp S.t46,kp S.t47,kp S.t48⟩
    | 7,_,ho,hsi,hT=>
      obtain ⟨e1,e2⟩:=pick_of h7 ho
      have D6:s 6=true:=list_pos hT (d:=6) (by decide)
      refine step_val (v:=.pointer (some ⟨G,3,none⟩)) (by simp only [execOp,e1,S.t6 D6]; go_simp) (hK _ _ ?_)
      rw [e2]
      exact ⟨_,_,_,_,_,_,_,_,ofp S.off,by simpa using S.before,kp S.t0,kp S.t1,kp S.t2,kp S.t3,kp S.t4,kp S.t5,kp S.t6,ev_ (by omega),kp S.t8,kp S.t9,kp S.t10,kp S.t11,kp S.t12,kp S.t13,kp S.t14,kp S.t15,kp S.t16,kp S.t17,kp S.t18,kp S.t19,kp S.t20,kp S.t21,kp S.t22,kp S.t23,kp S.t24,kp S.t25,kp S.t26,kp S.t27,kp S.t28,kp S.t29,kp S.t30,kp S.t31,kp S.t32,kp S.t33,kp S.t34,kp S.t35,kp S.t36,kp S.t38,kp S.t39,kp S.t40,kp S.t42,kp S.t43,kp S.t44,kp S.t46,kp S.t47,kp S.t48⟩
    | 8,_,ho,hsi,hT=>
      obtain ⟨e1,e2⟩:=pick_of h8 ho
      have D7:s 7=true:=list_pos hT (d:=7) (by decide)
      have N37:s 37=false:=list_neg hT (k:=37) (by decide)
      have BW:=S.before
      rw [N37] at BW
      have cc:w'.cell? ⟨G,3,none⟩=some z.v3:=BW.cel.cell (j:=3) (by omega)
      obtain ⟨q1,q2,q3,hq⟩:=hz3
      rw [hq] at cc
      refine step_val (v:=z.v3) (by simp only [execOp,e1,S.t7 D7]; rw [hq]; go_simp) (hK _ _ ?_)
      rw [e2]
      exact ⟨_,_,_,_,_,_,_,_,ofp S.off,by simpa using S.before,kp S.t0,kp S.t1,kp S.t2,kp S.t3,kp S.t4,kp S.t5,kp S.t6,kp S.t7,ev_ (by omega),kp S.t9,kp S.t10,kp S.t11,kp S.t12,kp S.t13,kp S.t14,kp S.t15,kp S.t16,kp S.t17,kp S.t18,kp S.t19,kp S.t20,kp S.t21,kp S.t22,kp S.t23,kp S.t24,kp S.t25,kp S.t26,kp S.t27,kp S.t28,kp S.t29,kp S.t30,kp S.t31,kp S.t32,kp S.t33,kp S.t34,kp S.t35,kp S.t36,kp S.t38,kp S.t39,kp S.t40,kp S.t42,kp S.t43,kp S.t44,kp S.t46,kp S.t47,kp S.t48⟩
    | 9,_,ho,hsi,hT=>
      obtain ⟨e1,e2⟩:=pick_of h9 ho
      refine step_val (v:=.string p) (by simp only [execOp,e1,y10]; go_simp) (hK _ _ ?_)
      rw [e2]
      exact ⟨_,_,_,_,_,_,_,_,ofp S.off,by simpa using S.before,kp S.t0,kp S.t1,kp S.t2,kp S.t3,kp S.t4,kp S.t5,kp S.t6,kp S.t7,kp S.t8,ev_ (by omega),kp S.t10,kp S.t11,kp S.t12,kp S.t13,kp S.t14,kp S.t15,kp S.t16,kp S.t17,kp S.t18,kp S.t19,kp S.t20,kp S.t21,kp S.t22,kp S.t23,kp S.t24,kp S.t25,kp S.t26,kp S.t27,kp S.t28,kp S.t29,kp S.t30,kp S.t31,kp S.t32,kp S.t33,kp S.t34,kp S.t35,kp S.t36,kp S.t38,kp S.t39,kp S.t40,kp S.t42,kp S.t43,kp S.t44,kp S.t46,kp S.t47,kp S.t48⟩
    | 10,_,ho,hsi,hT=>
      obtain ⟨e1,e2⟩:=pick_of h10 ho
      have D9:s 9=true:=list_pos hT (d:=9) (by decide)
      have N11:s 11=false:=list_neg hT (k:=11) (by decide)
      have BW:=S.before
      have qq:a.tmps[82]'(by omega)=.string p:=by have:=S.t9 D9; simpa [Act.eval,sz] using this
      rw [hsi] at BW
      obtain ⟨gh,w2,hr,WW0⟩:=(⟨w'.heap.size,w'.alloc (.cells #[.string p] 9),by simp only [execOp,e1]; go_simp,SW.build (i:=4) BW rfl⟩:∃ gh w2,(execOp a.eval o).run Tryz.prog w'=.ok (.value (.slice (some ⟨gh,0,none⟩) 1 1)) w2/\Wt n5 G M T W0 z Pp Oo Fr To p c R gh v1 b2 v2 b3 v3 b4 v4 true (s 11) (s 18) (s 19) (s 25) (s 26) (s 32) (s 33) (s 37) (s 41) (s 45) false w2)
      refine step_to1 hr (hK _ _ ?_)
      have WW:Wt n5 G M T W0 z Pp Oo Fr To p c R gh v1 b2 v2 b3 v3 b4 v4 (if 10=10 then true else s 10) (if 11=10 then true else s 11) (if 18=10 then true else s 18) (if 19=10 then true else s 19) (if 25=10 then true else s 25) (if 26=10 then true else s 26) (if 32=10 then true else s 32) (if 33=10 then true else s 33) (if 37=10 then true else s 37) (if 41=10 then true else s 41) (if 45=10 then true else s 45) false w2:=by simpa using WW0
      rw [e2]
      exact ⟨_,_,_,_,_,_,_,_,ofp S.off,WW,kp S.t0,kp S.t1,kp S.t2,kp S.t3,kp S.t4,kp S.t5,kp S.t6,kp S.t7,kp S.t8,kp S.t9,ev_ (by omega),kp S.t11,kp S.t12,kp S.t13,kp S.t14,kp S.t15,kp S.t16,kp S.t17,kp S.t18,kp S.t19,kp S.t20,kp S.t21,kp S.t22,kp S.t23,kp S.t24,kp S.t25,kp S.t26,kp S.t27,kp S.t28,kp S.t29,kp S.t30,kp S.t31,kp S.t32,kp S.t33,kp S.t34,kp S.t35,kp S.t36,kp S.t38,kp S.t39,kp S.t40,kp S.t42,kp S.t43,kp S.t44,kp S.t46,kp S.t47,kp S.t48⟩
    | 11,_,ho,hsi,hT=>
      obtain ⟨e1,e2⟩:=pick_of h11 ho
      have D8:s 8=true:=list_pos hT (d:=8) (by decide)
      have D10:s 10=true:=list_pos hT (d:=10) (by decide)
      have N37:s 37=false:=list_neg hT (k:=37) (by decide)
      have BW:=S.before
      rw [hsi] at BW
      obtain ⟨gh,w2,hr,WW0⟩:=tapp1 (S.t8 D8) (S.t10 D10) e1 hl1 D10 N37 BW
      refine step_to1 hr (hK _ _ ?_)
      have WW:Wt n5 G M T W0 z Pp Oo Fr To p c R b1 gh b2 v2 b3 v3 b4 v4 (if 10=11 then true else s 10) (if 11=11 then true else s 11) (if 18=11 then true else s 18) (if 19=11 then true else s 19) (if 25=11 then true else s 25) (if 26=11 then true else s 26) (if 32=11 then true else s 32) (if 33=11 then true else s 33) (if 37=11 then true else s 37) (if 41=11 then true else s 41) (if 45=11 then true else s 45) false w2:=by simpa using WW0
      rw [e2]
      exact ⟨_,_,_,_,_,_,_,_,ofp S.off,WW,kp S.t0,kp S.t1,kp S.t2,kp S.t3,kp S.t4,kp S.t5,kp S.t6,kp S.t7,kp S.t8,kp S.t9,kp S.t10,ev_ (by omega),kp S.t12,kp S.t13,kp S.t14,kp S.t15,kp S.t16,kp S.t17,kp S.t18,kp S.t19,kp S.t20,kp S.t21,kp S.t22,kp S.t23,kp S.t24,kp S.t25,kp S.t26,kp S.t27,kp S.t28,kp S.t29,kp S.t30,kp S.t31,kp S.t32,kp S.t33,kp S.t34,kp S.t35,kp S.t36,kp S.t38,kp S.t39,kp S.t40,kp S.t42,kp S.t43,kp S.t44,kp S.t46,kp S.t47,kp S.t48⟩
    | 12,_,ho,hsi,hT=>
      obtain ⟨e1,e2⟩:=pick_of h12 ho
      refine step_val (v:=.pointer (some ⟨G,0,none⟩)) (by simp only [execOp,e1,y7]; go_simp) (hK _ _ ?_)
      rw [e2]
      exact ⟨_,_,_,_,_,_,_,_,ofp S.off,by simpa using S.before,kp S.t0,kp S.t1,kp S.t2,kp S.t3,kp S.t4,kp S.t5,kp S.t6,kp S.t7,kp S.t8,kp S.t9,kp S.t10,kp S.t11,ev_ (by omega),kp S.t13,kp S.t14,kp S.t15,kp S.t16,kp S.t17,kp S.t18,kp S.t19,kp S.t20,kp S.t21,kp S.t22,kp S.t23,kp S.t24,kp S.t25,kp S.t26,kp S.t27,kp S.t28,kp S.t29,kp S.t30,kp S.t31,kp S.t32,kp S.t33,kp S.t34,kp S.t35,kp S.t36,kp S.t38,kp S.t39,kp S.t40,kp S.t42,kp S.t43,kp S.t44,kp S.t46,kp S.t47,kp S.t48⟩
    | 13,_,ho,hsi,hT=>
      obtain ⟨e1,e2⟩:=pick_of h13 ho
      have D12:s 12=true:=list_pos hT (d:=12) (by decide)
      refine step_val (v:=.pointer (some ⟨G,0,none⟩)) (by simp only [execOp,e1,S.t12 D12]; go_simp) (hK _ _ ?_)
      rw [e2]
      exact ⟨_,_,_,_,_,_,_,_,ofp S.off,by simpa using S.before,kp S.t0,kp S.t1,kp S.t2,kp S.t3,kp S.t4,kp S.t5,kp S.t6,kp S.t7,kp S.t8,kp S.t9,kp S.t10,kp S.t11,kp S.t12,ev_ (by omega),kp S.t14,kp S.t15,kp S.t16,kp S.t17,kp S.t18,kp S.t19,kp S.t20,kp S.t21,kp S.t22,kp S.t23,kp S.t24,kp S.t25,kp S.t26,kp S.t27,kp S.t28,kp S.t29,kp S.t30,kp S.t31,kp S.t32,kp S.t33,kp S.t34,kp S.t35,kp S.t36,kp S.t38,kp S.t39,kp S.t40,kp S.t42,kp S.t43,kp S.t44,kp S.t46,kp S.t47,kp S.t48⟩
    | 14,_,ho,hsi,hT=>
      obtain ⟨e1,e2⟩:=pick_of h14 ho
      have D13:s 13=true:=list_pos hT (d:=13) (by decide)
      refine step_val (v:=.pointer (some ⟨G,1,none⟩)) (by simp only [execOp,e1,S.t13 D13]; go_simp) (hK _ _ ?_)
      rw [e2]
      exact ⟨_,_,_,_,_,_,_,_,ofp S.off,by simpa using S.before,kp S.t0,kp S.t1,kp S.t2,kp S.t3,kp S.t4,kp S.t5,kp S.t6,kp S.t7,kp S.t8,kp S.t9,kp S.t10,kp S.t11,kp S.t12,kp S.t13,ev_ (by omega),kp S.t15,kp S.t16,kp S.t17,kp S.t18,kp S.t19,kp S.t20,kp S.t21,kp S.t22,kp S.t23,kp S.t24,kp S.t25,kp S.t26,kp S.t27,kp S.t28,kp S.t29,kp S.t30,kp S.t31,kp S.t32,kp S.t33,kp S.t34,kp S.t35,kp S.t36,kp S.t38,kp S.t39,kp S.t40,kp S.t42,kp S.t43,kp S.t44,kp S.t46,kp S.t47,kp S.t48⟩
    | 15,_,ho,hsi,hT=>
      obtain ⟨e1,e2⟩:=pick_of h15 ho
      have D14:s 14=true:=list_pos hT (d:=14) (by decide)
      refine step_val (v:=.pointer (some ⟨G,4,none⟩)) (by simp only [execOp,e1,S.t14 D14]; go_simp) (hK _ _ ?_)
      rw [e2]
      exact ⟨_,_,_,_,_,_,_,_,ofp S.off,by simpa using S.before,kp S.t0,kp S.t1,kp S.t2,kp S.t3,kp S.t4,kp S.t5,kp S.t6,kp S.t7,kp S.t8,kp S.t9,kp S.t10,kp S.t11,kp S.t12,kp S.t13,kp S.t14,ev_ (by omega),kp S.t16,kp S.t17,kp S.t18,kp S.t19,kp S.t20,kp S.t21,kp S.t22,kp S.t23,kp S.t24,kp S.t25,kp S.t26,kp S.t27,kp S.t28,kp S.t29,kp S.t30,kp S.t31,kp S.t32,kp S.t33,kp S.t34,kp S.t35,kp S.t36,kp S.t38,kp S.t39,kp S.t40,kp S.t42,kp S.t43,kp S.t44,kp S.t46,kp S.t47,kp S.t48⟩
    | 16,_,ho,hsi,hT=>
      obtain ⟨e1,e2⟩:=pick_of h16 ho
      have D15:s 15=true:=list_pos hT (d:=15) (by decide)
      have N41:s 41=false:=list_neg hT (k:=41) (by decide)
      have BW:=S.before
      rw [N41] at BW
      have cc:w'.cell? ⟨G,4,none⟩=some z.v4:=BW.cel.cell (j:=4) (by omega)
      obtain ⟨q1,q2,q3,hq⟩:=hz4
      rw [hq] at cc
      refine step_val (v:=z.v4) (by simp only [execOp,e1,S.t15 D15]; rw [hq]; go_simp) (hK _ _ ?_)
      rw [e2]
      exact ⟨_,_,_,_,_,_,_,_,ofp S.off,by simpa using S.before,kp S.t0,kp S.t1,kp S.t2,kp S.t3,kp S.t4,kp S.t5,kp S.t6,kp S.t7,kp S.t8,kp S.t9,kp S.t10,kp S.t11,kp S.t12,kp S.t13,kp S.t14,kp S.t15,ev_ (by omega),kp S.t17,kp S.t18,kp S.t19,kp S.t20,kp S.t21,kp S.t22,kp S.t23,kp S.t24,kp S.t25,kp S.t26,kp S.t27,kp S.t28,kp S.t29,kp S.t30,kp S.t31,kp S.t32,kp S.t33,kp S.t34,kp S.t35,kp S.t36,kp S.t38,kp S.t39,kp S.t40,kp S.t42,kp S.t43,kp S.t44,kp S.t46,kp S.t47,kp S.t48⟩
    | 17,_,ho,hsi,hT=>
      obtain ⟨e1,e2⟩:=pick_of h17 ho
      refine step_val (v:=.int .i64 (c:Nat)) (by simp only [execOp,e1,y9]; go_simp) (hK _ _ ?_)
      rw [e2]
      exact ⟨_,_,_,_,_,_,_,_,ofp S.off,by simpa using S.before,kp S.t0,kp S.t1,kp S.t2,kp S.t3,kp S.t4,kp S.t5,kp S.t6,kp S.t7,kp S.t8,kp S.t9,kp S.t10,kp S.t11,kp S.t12,kp S.t13,kp S.t14,kp S.t15,kp S.t16,ev_ (by omega),kp S.t18,kp S.t19,kp S.t20,kp S.t21,kp S.t22,kp S.t23,kp S.t24,kp S.t25,kp S.t26,kp S.t27,kp S.t28,kp S.t29,kp S.t30,kp S.t31,kp S.t32,kp S.t33,kp S.t34,kp S.t35,kp S.t36,kp S.t38,kp S.t39,kp S.t40,kp S.t42,kp S.t43,kp S.t44,kp S.t46,kp S.t47,kp S.t48⟩
    | 18,_,ho,hsi,hT=>
      obtain ⟨e1,e2⟩:=pick_of h18 ho
      have D17:s 17=true:=list_pos hT (d:=17) (by decide)
      have N19:s 19=false:=list_neg hT (k:=19) (by decide)
      have BW:=S.before
      have qq:a.tmps[90]'(by omega)=.int .i64 (c:Nat):=by have:=S.t17 D17; simpa [Act.eval,sz] using this
      rw [hsi] at BW
      obtain ⟨gh,w2,hr,WW0⟩:=(⟨w'.heap.size,w'.alloc (.cells #[.int .i64 (c:Nat)] 3),by simp only [execOp,e1]; go_simp,SW.build (i:=5) BW rfl⟩:∃ gh w2,(execOp a.eval o).run Tryz.prog w'=.ok (.value (.slice (some ⟨gh,0,none⟩) 1 1)) w2/\Wt n5 G M T W0 z Pp Oo Fr To p c R b1 v1 gh v2 b3 v3 b4 v4 (s 10) (s 11) true (s 19) (s 25) (s 26) (s 32) (s 33) (s 37) (s 41) (s 45) false w2)
      refine step_to1 hr (hK _ _ ?_)
      have WW:Wt n5 G M T W0 z Pp Oo Fr To p c R b1 v1 gh v2 b3 v3 b4 v4 (if 10=18 then true else s 10) (if 11=18 then true else s 11) (if 18=18 then true else s 18) (if 19=18 then true else s 19) (if 25=18 then true else s 25) (if 26=18 then true else s 26) (if 32=18 then true else s 32) (if 33=18 then true else s 33) (if 37=18 then true else s 37) (if 41=18 then true else s 41) (if 45=18 then true else s 45) false w2:=by simpa using WW0
      rw [e2]
      exact ⟨_,_,_,_,_,_,_,_,ofp S.off,WW,kp S.t0,kp S.t1,kp S.t2,kp S.t3,kp S.t4,kp S.t5,kp S.t6,kp S.t7,kp S.t8,kp S.t9,kp S.t10,kp S.t11,kp S.t12,kp S.t13,kp S.t14,kp S.t15,kp S.t16,kp S.t17,ev_ (by omega),kp S.t19,kp S.t20,kp S.t21,kp S.t22,kp S.t23,kp S.t24,kp S.t25,kp S.t26,kp S.t27,kp S.t28,kp S.t29,kp S.t30,kp S.t31,kp S.t32,kp S.t33,kp S.t34,kp S.t35,kp S.t36,kp S.t38,kp S.t39,kp S.t40,kp S.t42,kp S.t43,kp S.t44,kp S.t46,kp S.t47,kp S.t48⟩
    | 19,_,ho,hsi,hT=>
      obtain ⟨e1,e2⟩:=pick_of h19 ho
      have D16:s 16=true:=list_pos hT (d:=16) (by decide)
      have D18:s 18=true:=list_pos hT (d:=18) (by decide)
      have N41:s 41=false:=list_neg hT (k:=41) (by decide)
      have BW:=S.before
      rw [hsi] at BW
      obtain ⟨gh,w2,hr,WW0⟩:=tapp2 (S.t16 D16) (S.t18 D18) e1 hl2 D18 N41 BW
      refine step_to1 hr (hK _ _ ?_)
      have WW:Wt n5 G M T W0 z Pp Oo Fr To p c R b1 v1 b2 gh b3 v3 b4 v4 (if 10=19 then true else s 10) (if 11=19 then true else s 11) (if 18=19 then true else s 18) (if 19=19 then true else s 19) (if 25=19 then true else s 25) (if 26=19 then true else s 26) (if 32=19 then true else s 32) (if 33=19 then true else s 33) (if 37=19 then true else s 37) (if 41=19 then true else s 41) (if 45=19 then true else s 45) false w2:=by simpa using WW0
      rw [e2]
      exact ⟨_,_,_,_,_,_,_,_,ofp S.off,WW,kp S.t0,kp S.t1,kp S.t2,kp S.t3,kp S.t4,kp S.t5,kp S.t6,kp S.t7,kp S.t8,kp S.t9,kp S.t10,kp S.t11,kp S.t12,kp S.t13,kp S.t14,kp S.t15,kp S.t16,kp S.t17,kp S.t18,ev_ (by omega),kp S.t20,kp S.t21,kp S.t22,kp S.t23,kp S.t24,kp S.t25,kp S.t26,kp S.t27,kp S.t28,kp S.t29,kp S.t30,kp S.t31,kp S.t32,kp S.t33,kp S.t34,kp S.t35,kp S.t36,kp S.t38,kp S.t39,kp S.t40,kp S.t42,kp S.t43,kp S.t44,kp S.t46,kp S.t47,kp S.t48⟩
    | 20,_,ho,hsi,hT=>
      obtain ⟨e1,e2⟩:=pick_of h20 ho
      refine step_val (v:=.pointer (some ⟨G,0,none⟩)) (by simp only [execOp,e1,y7]; go_simp) (hK _ _ ?_)
      rw [e2]
      exact ⟨_,_,_,_,_,_,_,_,ofp S.off,by simpa using S.before,kp S.t0,kp S.t1,kp S.t2,kp S.t3,kp S.t4,kp S.t5,kp S.t6,kp S.t7,kp S.t8,kp S.t9,kp S.t10,kp S.t11,kp S.t12,kp S.t13,kp S.t14,kp S.t15,kp S.t16,kp S.t17,kp S.t18,kp S.t19,ev_ (by omega),kp S.t21,kp S.t22,kp S.t23,kp S.t24,kp S.t25,kp S.t26,kp S.t27,kp S.t28,kp S.t29,kp S.t30,kp S.t31,kp S.t32,kp S.t33,kp S.t34,kp S.t35,kp S.t36,kp S.t38,kp S.t39,kp S.t40,kp S.t42,kp S.t43,kp S.t44,kp S.t46,kp S.t47,kp S.t48⟩
    | 21,_,ho,hsi,hT=>
      obtain ⟨e1,e2⟩:=pick_of h21 ho
      have D20:s 20=true:=list_pos hT (d:=20) (by decide)
      refine step_val (v:=.pointer (some ⟨G,0,none⟩)) (by simp only [execOp,e1,S.t20 D20]; go_simp) (hK _ _ ?_)
      rw [e2]
      exact ⟨_,_,_,_,_,_,_,_,ofp S.off,by simpa using S.before,kp S.t0,kp S.t1,kp S.t2,kp S.t3,kp S.t4,kp S.t5,kp S.t6,kp S.t7,kp S.t8,kp S.t9,kp S.t10,kp S.t11,kp S.t12,kp S.t13,kp S.t14,kp S.t15,kp S.t16,kp S.t17,kp S.t18,kp S.t19,kp S.t20,ev_ (by omega),kp S.t22,kp S.t23,kp S.t24,kp S.t25,kp S.t26,kp S.t27,kp S.t28,kp S.t29,kp S.t30,kp S.t31,kp S.t32,kp S.t33,kp S.t34,kp S.t35,kp S.t36,kp S.t38,kp S.t39,kp S.t40,kp S.t42,kp S.t43,kp S.t44,kp S.t46,kp S.t47,kp S.t48⟩
    | 22,_,ho,hsi,hT=>
      obtain ⟨e1,e2⟩:=pick_of h22 ho
      have D21:s 21=true:=list_pos hT (d:=21) (by decide)
      refine step_val (v:=.pointer (some ⟨G,1,none⟩)) (by simp only [execOp,e1,S.t21 D21]; go_simp) (hK _ _ ?_)
      rw [e2]
      exact ⟨_,_,_,_,_,_,_,_,ofp S.off,by simpa using S.before,kp S.t0,kp S.t1,kp S.t2,kp S.t3,kp S.t4,kp S.t5,kp S.t6,kp S.t7,kp S.t8,kp S.t9,kp S.t10,kp S.t11,kp S.t12,kp S.t13,kp S.t14,kp S.t15,kp S.t16,kp S.t17,kp S.t18,kp S.t19,kp S.t20,kp S.t21,ev_ (by omega),kp S.t23,kp S.t24,kp S.t25,kp S.t26,kp S.t27,kp S.t28,kp S.t29,kp S.t30,kp S.t31,kp S.t32,kp S.t33,kp S.t34,kp S.t35,kp S.t36,kp S.t38,kp S.t39,kp S.t40,kp S.t42,kp S.t43,kp S.t44,kp S.t46,kp S.t47,kp S.t48⟩
    | 23,_,ho,hsi,hT=>
      obtain ⟨e1,e2⟩:=pick_of h23 ho
      have D22:s 22=true:=list_pos hT (d:=22) (by decide)
      refine step_val (v:=.pointer (some ⟨G,5,none⟩)) (by simp only [execOp,e1,S.t22 D22]; go_simp) (hK _ _ ?_)
      rw [e2]
      exact ⟨_,_,_,_,_,_,_,_,ofp S.off,by simpa using S.before,kp S.t0,kp S.t1,kp S.t2,kp S.t3,kp S.t4,kp S.t5,kp S.t6,kp S.t7,kp S.t8,kp S.t9,kp S.t10,kp S.t11,kp S.t12,kp S.t13,kp S.t14,kp S.t15,kp S.t16,kp S.t17,kp S.t18,kp S.t19,kp S.t20,kp S.t21,kp S.t22,ev_ (by omega),kp S.t24,kp S.t25,kp S.t26,kp S.t27,kp S.t28,kp S.t29,kp S.t30,kp S.t31,kp S.t32,kp S.t33,kp S.t34,kp S.t35,kp S.t36,kp S.t38,kp S.t39,kp S.t40,kp S.t42,kp S.t43,kp S.t44,kp S.t46,kp S.t47,kp S.t48⟩
    | 24,_,ho,hsi,hT=>
      obtain ⟨e1,e2⟩:=pick_of h24 ho
      have D23:s 23=true:=list_pos hT (d:=23) (by decide)
      have N45:s 45=false:=list_neg hT (k:=45) (by decide)
      have BW:=S.before
      rw [N45] at BW
      have cc:w'.cell? ⟨G,5,none⟩=some z.v5:=BW.cel.cell (j:=5) (by omega)
      obtain ⟨q1,q2,q3,hq⟩:=hz5
      rw [hq] at cc
      refine step_val (v:=z.v5) (by simp only [execOp,e1,S.t23 D23]; rw [hq]; go_simp) (hK _ _ ?_)
      rw [e2]
      exact ⟨_,_,_,_,_,_,_,_,ofp S.off,by simpa using S.before,kp S.t0,kp S.t1,kp S.t2,kp S.t3,kp S.t4,kp S.t5,kp S.t6,kp S.t7,kp S.t8,kp S.t9,kp S.t10,kp S.t11,kp S.t12,kp S.t13,kp S.t14,kp S.t15,kp S.t16,kp S.t17,kp S.t18,kp S.t19,kp S.t20,kp S.t21,kp S.t22,kp S.t23,ev_ (by omega),kp S.t25,kp S.t26,kp S.t27,kp S.t28,kp S.t29,kp S.t30,kp S.t31,kp S.t32,kp S.t33,kp S.t34,kp S.t35,kp S.t36,kp S.t38,kp S.t39,kp S.t40,kp S.t42,kp S.t43,kp S.t44,kp S.t46,kp S.t47,kp S.t48⟩
    | 25,_,ho,hsi,hT=>
      obtain ⟨e1,e2⟩:=pick_of h25 ho
      have N26:s 26=false:=list_neg hT (k:=26) (by decide)
      have BW:=S.before
      rw [hsi] at BW
      obtain ⟨gh,w2,hr,WW0⟩:=(⟨w'.heap.size,w'.alloc (.cells #[.int .i64 (-1)] 3),by simp only [execOp,e1]; go_simp,SW.build (i:=6) BW rfl⟩:∃ gh w2,(execOp a.eval o).run Tryz.prog w'=.ok (.value (.slice (some ⟨gh,0,none⟩) 1 1)) w2/\Wt n5 G M T W0 z Pp Oo Fr To p c R b1 v1 b2 v2 gh v3 b4 v4 (s 10) (s 11) (s 18) (s 19) true (s 26) (s 32) (s 33) (s 37) (s 41) (s 45) false w2)
      refine step_to1 hr (hK _ _ ?_)
      have WW:Wt n5 G M T W0 z Pp Oo Fr To p c R b1 v1 b2 v2 gh v3 b4 v4 (if 10=25 then true else s 10) (if 11=25 then true else s 11) (if 18=25 then true else s 18) (if 19=25 then true else s 19) (if 25=25 then true else s 25) (if 26=25 then true else s 26) (if 32=25 then true else s 32) (if 33=25 then true else s 33) (if 37=25 then true else s 37) (if 41=25 then true else s 41) (if 45=25 then true else s 45) false w2:=by simpa using WW0
      rw [e2]
      exact ⟨_,_,_,_,_,_,_,_,ofp S.off,WW,kp S.t0,kp S.t1,kp S.t2,kp S.t3,kp S.t4,kp S.t5,kp S.t6,kp S.t7,kp S.t8,kp S.t9,kp S.t10,kp S.t11,kp S.t12,kp S.t13,kp S.t14,kp S.t15,kp S.t16,kp S.t17,kp S.t18,kp S.t19,kp S.t20,kp S.t21,kp S.t22,kp S.t23,kp S.t24,ev_ (by omega),kp S.t26,kp S.t27,kp S.t28,kp S.t29,kp S.t30,kp S.t31,kp S.t32,kp S.t33,kp S.t34,kp S.t35,kp S.t36,kp S.t38,kp S.t39,kp S.t40,kp S.t42,kp S.t43,kp S.t44,kp S.t46,kp S.t47,kp S.t48⟩
    | 26,_,ho,hsi,hT=>
      obtain ⟨e1,e2⟩:=pick_of h26 ho
      have D24:s 24=true:=list_pos hT (d:=24) (by decide)
      have D25:s 25=true:=list_pos hT (d:=25) (by decide)
      have N45:s 45=false:=list_neg hT (k:=45) (by decide)
      have BW:=S.before
      rw [hsi] at BW
      obtain ⟨gh,w2,hr,WW0⟩:=tapp3 (S.t24 D24) (S.t25 D25) e1 hl3 D25 N45 BW
      refine step_to1 hr (hK _ _ ?_)
      have WW:Wt n5 G M T W0 z Pp Oo Fr To p c R b1 v1 b2 v2 b3 gh b4 v4 (if 10=26 then true else s 10) (if 11=26 then true else s 11) (if 18=26 then true else s 18) (if 19=26 then true else s 19) (if 25=26 then true else s 25) (if 26=26 then true else s 26) (if 32=26 then true else s 32) (if 33=26 then true else s 33) (if 37=26 then true else s 37) (if 41=26 then true else s 41) (if 45=26 then true else s 45) false w2:=by simpa using WW0
      rw [e2]
      exact ⟨_,_,_,_,_,_,_,_,ofp S.off,WW,kp S.t0,kp S.t1,kp S.t2,kp S.t3,kp S.t4,kp S.t5,kp S.t6,kp S.t7,kp S.t8,kp S.t9,kp S.t10,kp S.t11,kp S.t12,kp S.t13,kp S.t14,kp S.t15,kp S.t16,kp S.t17,kp S.t18,kp S.t19,kp S.t20,kp S.t21,kp S.t22,kp S.t23,kp S.t24,kp S.t25,ev_ (by omega),kp S.t27,kp S.t28,kp S.t29,kp S.t30,kp S.t31,kp S.t32,kp S.t33,kp S.t34,kp S.t35,kp S.t36,kp S.t38,kp S.t39,kp S.t40,kp S.t42,kp S.t43,kp S.t44,kp S.t46,kp S.t47,kp S.t48⟩
    | 27,_,ho,hsi,hT=>
      obtain ⟨e1,e2⟩:=pick_of h27 ho
      refine step_val (v:=.pointer (some ⟨G,0,none⟩)) (by simp only [execOp,e1,y7]; go_simp) (hK _ _ ?_)
      rw [e2]
      exact ⟨_,_,_,_,_,_,_,_,ofp S.off,by simpa using S.before,kp S.t0,kp S.t1,kp S.t2,kp S.t3,kp S.t4,kp S.t5,kp S.t6,kp S.t7,kp S.t8,kp S.t9,kp S.t10,kp S.t11,kp S.t12,kp S.t13,kp S.t14,kp S.t15,kp S.t16,kp S.t17,kp S.t18,kp S.t19,kp S.t20,kp S.t21,kp S.t22,kp S.t23,kp S.t24,kp S.t25,kp S.t26,ev_ (by omega),kp S.t28,kp S.t29,kp S.t30,kp S.t31,kp S.t32,kp S.t33,kp S.t34,kp S.t35,kp S.t36,kp S.t38,kp S.t39,kp S.t40,kp S.t42,kp S.t43,kp S.t44,kp S.t46,kp S.t47,kp S.t48⟩
    | 28,_,ho,hsi,hT=>
      obtain ⟨e1,e2⟩:=pick_of h28 ho
      have D27:s 27=true:=list_pos hT (d:=27) (by decide)
      refine step_val (v:=.pointer (some ⟨G,0,none⟩)) (by simp only [execOp,e1,S.t27 D27]; go_simp) (hK _ _ ?_)
      rw [e2]
      exact ⟨_,_,_,_,_,_,_,_,ofp S.off,by simpa using S.before,kp S.t0,kp S.t1,kp S.t2,kp S.t3,kp S.t4,kp S.t5,kp S.t6,kp S.t7,kp S.t8,kp S.t9,kp S.t10,kp S.t11,kp S.t12,kp S.t13,kp S.t14,kp S.t15,kp S.t16,kp S.t17,kp S.t18,kp S.t19,kp S.t20,kp S.t21,kp S.t22,kp S.t23,kp S.t24,kp S.t25,kp S.t26,kp S.t27,ev_ (by omega),kp S.t29,kp S.t30,kp S.t31,kp S.t32,kp S.t33,kp S.t34,kp S.t35,kp S.t36,kp S.t38,kp S.t39,kp S.t40,kp S.t42,kp S.t43,kp S.t44,kp S.t46,kp S.t47,kp S.t48⟩
    | 29,_,ho,hsi,hT=>
      obtain ⟨e1,e2⟩:=pick_of h29 ho
      have D28:s 28=true:=list_pos hT (d:=28) (by decide)
      refine step_val (v:=.pointer (some ⟨G,1,none⟩)) (by simp only [execOp,e1,S.t28 D28]; go_simp) (hK _ _ ?_)
      rw [e2]
      exact ⟨_,_,_,_,_,_,_,_,ofp S.off,by simpa using S.before,kp S.t0,kp S.t1,kp S.t2,kp S.t3,kp S.t4,kp S.t5,kp S.t6,kp S.t7,kp S.t8,kp S.t9,kp S.t10,kp S.t11,kp S.t12,kp S.t13,kp S.t14,kp S.t15,kp S.t16,kp S.t17,kp S.t18,kp S.t19,kp S.t20,kp S.t21,kp S.t22,kp S.t23,kp S.t24,kp S.t25,kp S.t26,kp S.t27,kp S.t28,ev_ (by omega),kp S.t30,kp S.t31,kp S.t32,kp S.t33,kp S.t34,kp S.t35,kp S.t36,kp S.t38,kp S.t39,kp S.t40,kp S.t42,kp S.t43,kp S.t44,kp S.t46,kp S.t47,kp S.t48⟩
    | 30,_,ho,hsi,hT=>
      obtain ⟨e1,e2⟩:=pick_of h30 ho
      have D29:s 29=true:=list_pos hT (d:=29) (by decide)
      refine step_val (v:=.pointer (some ⟨G,6,none⟩)) (by simp only [execOp,e1,S.t29 D29]; go_simp) (hK _ _ ?_)
      rw [e2]
      exact ⟨_,_,_,_,_,_,_,_,ofp S.off,by simpa using S.before,kp S.t0,kp S.t1,kp S.t2,kp S.t3,kp S.t4,kp S.t5,kp S.t6,kp S.t7,kp S.t8,kp S.t9,kp S.t10,kp S.t11,kp S.t12,kp S.t13,kp S.t14,kp S.t15,kp S.t16,kp S.t17,kp S.t18,kp S.t19,kp S.t20,kp S.t21,kp S.t22,kp S.t23,kp S.t24,kp S.t25,kp S.t26,kp S.t27,kp S.t28,kp S.t29,ev_ (by omega),kp S.t31,kp S.t32,kp S.t33,kp S.t34,kp S.t35,kp S.t36,kp S.t38,kp S.t39,kp S.t40,kp S.t42,kp S.t43,kp S.t44,kp S.t46,kp S.t47,kp S.t48⟩
    | 31,_,ho,hsi,hT=>
      obtain ⟨e1,e2⟩:=pick_of h31 ho
      have D30:s 30=true:=list_pos hT (d:=30) (by decide)
      have BW:=S.before
      have cc:w'.cell? ⟨G,6,none⟩=some z.v6:=BW.cel.cell (j:=6) (by omega)
      obtain ⟨q1,q2,q3,hq⟩:=hz6
      rw [hq] at cc
      refine step_val (v:=z.v6) (by simp only [execOp,e1,S.t30 D30]; rw [hq]; go_simp) (hK _ _ ?_)
      rw [e2]
      exact ⟨_,_,_,_,_,_,_,_,ofp S.off,by simpa using S.before,kp S.t0,kp S.t1,kp S.t2,kp S.t3,kp S.t4,kp S.t5,kp S.t6,kp S.t7,kp S.t8,kp S.t9,kp S.t10,kp S.t11,kp S.t12,kp S.t13,kp S.t14,kp S.t15,kp S.t16,kp S.t17,kp S.t18,kp S.t19,kp S.t20,kp S.t21,kp S.t22,kp S.t23,kp S.t24,kp S.t25,kp S.t26,kp S.t27,kp S.t28,kp S.t29,kp S.t30,ev_ (by omega),kp S.t32,kp S.t33,kp S.t34,kp S.t35,kp S.t36,kp S.t38,kp S.t39,kp S.t40,kp S.t42,kp S.t43,kp S.t44,kp S.t46,kp S.t47,kp S.t48⟩
    | 32,_,ho,hsi,hT=>
      obtain ⟨e1,e2⟩:=pick_of h32 ho
      have N33:s 33=false:=list_neg hT (k:=33) (by decide)
      have BW:=S.before
      rw [hsi] at BW
      obtain ⟨gh,w2,hr,WW0⟩:=(⟨w'.heap.size,w'.alloc (.cells #[.int .i64 (-1)] 3),by simp only [execOp,e1]; go_simp,SW.build (i:=7) BW rfl⟩:∃ gh w2,(execOp a.eval o).run Tryz.prog w'=.ok (.value (.slice (some ⟨gh,0,none⟩) 1 1)) w2/\Wt n5 G M T W0 z Pp Oo Fr To p c R b1 v1 b2 v2 b3 v3 gh v4 (s 10) (s 11) (s 18) (s 19) (s 25) (s 26) true (s 33) (s 37) (s 41) (s 45) false w2)
      refine step_to1 hr (hK _ _ ?_)
      have WW:Wt n5 G M T W0 z Pp Oo Fr To p c R b1 v1 b2 v2 b3 v3 gh v4 (if 10=32 then true else s 10) (if 11=32 then true else s 11) (if 18=32 then true else s 18) (if 19=32 then true else s 19) (if 25=32 then true else s 25) (if 26=32 then true else s 26) (if 32=32 then true else s 32) (if 33=32 then true else s 33) (if 37=32 then true else s 37) (if 41=32 then true else s 41) (if 45=32 then true else s 45) false w2:=by simpa using WW0
      rw [e2]
      exact ⟨_,_,_,_,_,_,_,_,ofp S.off,WW,kp S.t0,kp S.t1,kp S.t2,kp S.t3,kp S.t4,kp S.t5,kp S.t6,kp S.t7,kp S.t8,kp S.t9,kp S.t10,kp S.t11,kp S.t12,kp S.t13,kp S.t14,kp S.t15,kp S.t16,kp S.t17,kp S.t18,kp S.t19,kp S.t20,kp S.t21,kp S.t22,kp S.t23,kp S.t24,kp S.t25,kp S.t26,kp S.t27,kp S.t28,kp S.t29,kp S.t30,kp S.t31,ev_ (by omega),kp S.t33,kp S.t34,kp S.t35,kp S.t36,kp S.t38,kp S.t39,kp S.t40,kp S.t42,kp S.t43,kp S.t44,kp S.t46,kp S.t47,kp S.t48⟩
    | 33,_,ho,hsi,hT=>
      obtain ⟨e1,e2⟩:=pick_of h33 ho
      have D31:s 31=true:=list_pos hT (d:=31) (by decide)
      have D32:s 32=true:=list_pos hT (d:=32) (by decide)
      have BW:=S.before
      rw [hsi] at BW
      obtain ⟨gh,w2,hr,WW0⟩:=tapp4 (S.t31 D31) (S.t32 D32) e1 hl4 D32 rfl BW
      refine step_to1 hr (hK _ _ ?_)
      have WW:Wt n5 G M T W0 z Pp Oo Fr To p c R b1 v1 b2 v2 b3 v3 b4 gh (if 10=33 then true else s 10) (if 11=33 then true else s 11) (if 18=33 then true else s 18) (if 19=33 then true else s 19) (if 25=33 then true else s 25) (if 26=33 then true else s 26) (if 32=33 then true else s 32) (if 33=33 then true else s 33) (if 37=33 then true else s 37) (if 41=33 then true else s 41) (if 45=33 then true else s 45) false w2:=by simpa using WW0
      rw [e2]
      exact ⟨_,_,_,_,_,_,_,_,ofp S.off,WW,kp S.t0,kp S.t1,kp S.t2,kp S.t3,kp S.t4,kp S.t5,kp S.t6,kp S.t7,kp S.t8,kp S.t9,kp S.t10,kp S.t11,kp S.t12,kp S.t13,kp S.t14,kp S.t15,kp S.t16,kp S.t17,kp S.t18,kp S.t19,kp S.t20,kp S.t21,kp S.t22,kp S.t23,kp S.t24,kp S.t25,kp S.t26,kp S.t27,kp S.t28,kp S.t29,kp S.t30,kp S.t31,kp S.t32,ev_ (by omega),kp S.t34,kp S.t35,kp S.t36,kp S.t38,kp S.t39,kp S.t40,kp S.t42,kp S.t43,kp S.t44,kp S.t46,kp S.t47,kp S.t48⟩
    | 34,_,ho,hsi,hT=>
      obtain ⟨e1,e2⟩:=pick_of h34 ho
      have D0:s 0=true:=list_pos hT (d:=0) (by decide)
      refine step_val (v:=.pointer (some ⟨G,0,none⟩)) (by simp only [execOp,e1,S.t0 D0]; go_simp) (hK _ _ ?_)
      rw [e2]
      exact ⟨_,_,_,_,_,_,_,_,ofp S.off,by simpa using S.before,kp S.t0,kp S.t1,kp S.t2,kp S.t3,kp S.t4,kp S.t5,kp S.t6,kp S.t7,kp S.t8,kp S.t9,kp S.t10,kp S.t11,kp S.t12,kp S.t13,kp S.t14,kp S.t15,kp S.t16,kp S.t17,kp S.t18,kp S.t19,kp S.t20,kp S.t21,kp S.t22,kp S.t23,kp S.t24,kp S.t25,kp S.t26,kp S.t27,kp S.t28,kp S.t29,kp S.t30,kp S.t31,kp S.t32,kp S.t33,ev_ (by omega),kp S.t35,kp S.t36,kp S.t38,kp S.t39,kp S.t40,kp S.t42,kp S.t43,kp S.t44,kp S.t46,kp S.t47,kp S.t48⟩
    | 35,_,ho,hsi,hT=>
      obtain ⟨e1,e2⟩:=pick_of h35 ho
      have D34:s 34=true:=list_pos hT (d:=34) (by decide)
      refine step_val (v:=.pointer (some ⟨G,1,none⟩)) (by simp only [execOp,e1,S.t34 D34]; go_simp) (hK _ _ ?_)
      rw [e2]
      exact ⟨_,_,_,_,_,_,_,_,ofp S.off,by simpa using S.before,kp S.t0,kp S.t1,kp S.t2,kp S.t3,kp S.t4,kp S.t5,kp S.t6,kp S.t7,kp S.t8,kp S.t9,kp S.t10,kp S.t11,kp S.t12,kp S.t13,kp S.t14,kp S.t15,kp S.t16,kp S.t17,kp S.t18,kp S.t19,kp S.t20,kp S.t21,kp S.t22,kp S.t23,kp S.t24,kp S.t25,kp S.t26,kp S.t27,kp S.t28,kp S.t29,kp S.t30,kp S.t31,kp S.t32,kp S.t33,kp S.t34,ev_ (by omega),kp S.t36,kp S.t38,kp S.t39,kp S.t40,kp S.t42,kp S.t43,kp S.t44,kp S.t46,kp S.t47,kp S.t48⟩
    | 36,_,ho,hsi,hT=>
      obtain ⟨e1,e2⟩:=pick_of h36 ho
      have D35:s 35=true:=list_pos hT (d:=35) (by decide)
      refine step_val (v:=.pointer (some ⟨G,3,none⟩)) (by simp only [execOp,e1,S.t35 D35]; go_simp) (hK _ _ ?_)
      rw [e2]
      exact ⟨_,_,_,_,_,_,_,_,ofp S.off,by simpa using S.before,kp S.t0,kp S.t1,kp S.t2,kp S.t3,kp S.t4,kp S.t5,kp S.t6,kp S.t7,kp S.t8,kp S.t9,kp S.t10,kp S.t11,kp S.t12,kp S.t13,kp S.t14,kp S.t15,kp S.t16,kp S.t17,kp S.t18,kp S.t19,kp S.t20,kp S.t21,kp S.t22,kp S.t23,kp S.t24,kp S.t25,kp S.t26,kp S.t27,kp S.t28,kp S.t29,kp S.t30,kp S.t31,kp S.t32,kp S.t33,kp S.t34,kp S.t35,ev_ (by omega),kp S.t38,kp S.t39,kp S.t40,kp S.t42,kp S.t43,kp S.t44,kp S.t46,kp S.t47,kp S.t48⟩
    | 37,_,ho,hsi,hT=>
      obtain ⟨e1,e2⟩:=pick_of h37 ho
      have D36:s 36=true:=list_pos hT (d:=36) (by decide)
      have D11:s 11=true:=list_pos hT (d:=11) (by decide)
      have BW:=S.before
      rw [hsi] at BW
      obtain ⟨u,hc,hf,WW0⟩:=tput1 D11 BW
      refine step_to (store_strsV e1 (S.t36 D36) (S.t11 D11) (tsl1 D11 BW) hc hf) (hK _ _ ?_)
      have WW:Wt n5 G M T W0 z Pp Oo Fr To p c R b1 v1 b2 v2 b3 v3 b4 v4 (if 10=37 then true else s 10) (if 11=37 then true else s 11) (if 18=37 then true else s 18) (if 19=37 then true else s 19) (if 25=37 then true else s 25) (if 26=37 then true else s 26) (if 32=37 then true else s 32) (if 33=37 then true else s 33) (if 37=37 then true else s 37) (if 41=37 then true else s 41) (if 45=37 then true else s 45) false (w'.setCell ⟨G,3,none⟩ v1):=by simpa using WW0
      rw [e2]
      exact ⟨_,_,_,_,_,_,_,_,S.off.put_none _,WW,fun g=>S.t0 (by simpa using g),fun g=>S.t1 (by simpa using g),fun g=>S.t2 (by simpa using g),fun g=>S.t3 (by simpa using g),fun g=>S.t4 (by simpa using g),fun g=>S.t5 (by simpa using g),fun g=>S.t6 (by simpa using g),fun g=>S.t7 (by simpa using g),fun g=>S.t8 (by simpa using g),fun g=>S.t9 (by simpa using g),fun g=>S.t10 (by simpa using g),fun g=>S.t11 (by simpa using g),fun g=>S.t12 (by simpa using g),fun g=>S.t13 (by simpa using g),fun g=>S.t14 (by simpa using g),fun g=>S.t15 (by simpa using g),fun g=>S.t16 (by simpa using g),fun g=>S.t17 (by simpa using g),fun g=>S.t18 (by simpa using g),fun g=>S.t19 (by simpa using g),fun g=>S.t20 (by simpa using g),fun g=>S.t21 (by simpa using g),fun g=>S.t22 (by simpa using g),fun g=>S.t23 (by simpa using g),fun g=>S.t24 (by simpa using g),fun g=>S.t25 (by simpa using g),fun g=>S.t26 (by simpa using g),fun g=>S.t27 (by simpa using g),fun g=>S.t28 (by simpa using g),fun g=>S.t29 (by simpa using g),fun g=>S.t30 (by simpa using g),fun g=>S.t31 (by simpa using g),fun g=>S.t32 (by simpa using g),fun g=>S.t33 (by simpa using g),fun g=>S.t34 (by simpa using g),fun g=>S.t35 (by simpa using g),fun g=>S.t36 (by simpa using g),fun g=>S.t38 (by simpa using g),fun g=>S.t39 (by simpa using g),fun g=>S.t40 (by simpa using g),fun g=>S.t42 (by simpa using g),fun g=>S.t43 (by simpa using g),fun g=>S.t44 (by simpa using g),fun g=>S.t46 (by simpa using g),fun g=>S.t47 (by simpa using g),fun g=>S.t48 (by simpa using g)⟩
    | 38,_,ho,hsi,hT=>
      obtain ⟨e1,e2⟩:=pick_of h38 ho
      have D1:s 1=true:=list_pos hT (d:=1) (by decide)
      refine step_val (v:=.pointer (some ⟨G,0,none⟩)) (by simp only [execOp,e1,S.t1 D1]; go_simp) (hK _ _ ?_)
      rw [e2]
      exact ⟨_,_,_,_,_,_,_,_,ofp S.off,by simpa using S.before,kp S.t0,kp S.t1,kp S.t2,kp S.t3,kp S.t4,kp S.t5,kp S.t6,kp S.t7,kp S.t8,kp S.t9,kp S.t10,kp S.t11,kp S.t12,kp S.t13,kp S.t14,kp S.t15,kp S.t16,kp S.t17,kp S.t18,kp S.t19,kp S.t20,kp S.t21,kp S.t22,kp S.t23,kp S.t24,kp S.t25,kp S.t26,kp S.t27,kp S.t28,kp S.t29,kp S.t30,kp S.t31,kp S.t32,kp S.t33,kp S.t34,kp S.t35,kp S.t36,ev_ (by omega),kp S.t39,kp S.t40,kp S.t42,kp S.t43,kp S.t44,kp S.t46,kp S.t47,kp S.t48⟩
    | 39,_,ho,hsi,hT=>
      obtain ⟨e1,e2⟩:=pick_of h39 ho
      have D38:s 38=true:=list_pos hT (d:=38) (by decide)
      refine step_val (v:=.pointer (some ⟨G,1,none⟩)) (by simp only [execOp,e1,S.t38 D38]; go_simp) (hK _ _ ?_)
      rw [e2]
      exact ⟨_,_,_,_,_,_,_,_,ofp S.off,by simpa using S.before,kp S.t0,kp S.t1,kp S.t2,kp S.t3,kp S.t4,kp S.t5,kp S.t6,kp S.t7,kp S.t8,kp S.t9,kp S.t10,kp S.t11,kp S.t12,kp S.t13,kp S.t14,kp S.t15,kp S.t16,kp S.t17,kp S.t18,kp S.t19,kp S.t20,kp S.t21,kp S.t22,kp S.t23,kp S.t24,kp S.t25,kp S.t26,kp S.t27,kp S.t28,kp S.t29,kp S.t30,kp S.t31,kp S.t32,kp S.t33,kp S.t34,kp S.t35,kp S.t36,kp S.t38,ev_ (by omega),kp S.t40,kp S.t42,kp S.t43,kp S.t44,kp S.t46,kp S.t47,kp S.t48⟩
    | 40,_,ho,hsi,hT=>
      obtain ⟨e1,e2⟩:=pick_of h40 ho
      have D39:s 39=true:=list_pos hT (d:=39) (by decide)
      refine step_val (v:=.pointer (some ⟨G,4,none⟩)) (by simp only [execOp,e1,S.t39 D39]; go_simp) (hK _ _ ?_)
      rw [e2]
      exact ⟨_,_,_,_,_,_,_,_,ofp S.off,by simpa using S.before,kp S.t0,kp S.t1,kp S.t2,kp S.t3,kp S.t4,kp S.t5,kp S.t6,kp S.t7,kp S.t8,kp S.t9,kp S.t10,kp S.t11,kp S.t12,kp S.t13,kp S.t14,kp S.t15,kp S.t16,kp S.t17,kp S.t18,kp S.t19,kp S.t20,kp S.t21,kp S.t22,kp S.t23,kp S.t24,kp S.t25,kp S.t26,kp S.t27,kp S.t28,kp S.t29,kp S.t30,kp S.t31,kp S.t32,kp S.t33,kp S.t34,kp S.t35,kp S.t36,kp S.t38,kp S.t39,ev_ (by omega),kp S.t42,kp S.t43,kp S.t44,kp S.t46,kp S.t47,kp S.t48⟩
    | 41,_,ho,hsi,hT=>
      obtain ⟨e1,e2⟩:=pick_of h41 ho
      have D40:s 40=true:=list_pos hT (d:=40) (by decide)
      have D19:s 19=true:=list_pos hT (d:=19) (by decide)
      have BW:=S.before
      rw [hsi] at BW
      obtain ⟨u,hc,hf,WW0⟩:=tput2 D19 BW
      refine step_to (store_intsV e1 (S.t40 D40) (S.t19 D19) (tsl2 D19 BW) hc hf) (hK _ _ ?_)
      have WW:Wt n5 G M T W0 z Pp Oo Fr To p c R b1 v1 b2 v2 b3 v3 b4 v4 (if 10=41 then true else s 10) (if 11=41 then true else s 11) (if 18=41 then true else s 18) (if 19=41 then true else s 19) (if 25=41 then true else s 25) (if 26=41 then true else s 26) (if 32=41 then true else s 32) (if 33=41 then true else s 33) (if 37=41 then true else s 37) (if 41=41 then true else s 41) (if 45=41 then true else s 45) false (w'.setCell ⟨G,4,none⟩ v2):=by simpa using WW0
      rw [e2]
      exact ⟨_,_,_,_,_,_,_,_,S.off.put_none _,WW,fun g=>S.t0 (by simpa using g),fun g=>S.t1 (by simpa using g),fun g=>S.t2 (by simpa using g),fun g=>S.t3 (by simpa using g),fun g=>S.t4 (by simpa using g),fun g=>S.t5 (by simpa using g),fun g=>S.t6 (by simpa using g),fun g=>S.t7 (by simpa using g),fun g=>S.t8 (by simpa using g),fun g=>S.t9 (by simpa using g),fun g=>S.t10 (by simpa using g),fun g=>S.t11 (by simpa using g),fun g=>S.t12 (by simpa using g),fun g=>S.t13 (by simpa using g),fun g=>S.t14 (by simpa using g),fun g=>S.t15 (by simpa using g),fun g=>S.t16 (by simpa using g),fun g=>S.t17 (by simpa using g),fun g=>S.t18 (by simpa using g),fun g=>S.t19 (by simpa using g),fun g=>S.t20 (by simpa using g),fun g=>S.t21 (by simpa using g),fun g=>S.t22 (by simpa using g),fun g=>S.t23 (by simpa using g),fun g=>S.t24 (by simpa using g),fun g=>S.t25 (by simpa using g),fun g=>S.t26 (by simpa using g),fun g=>S.t27 (by simpa using g),fun g=>S.t28 (by simpa using g),fun g=>S.t29 (by simpa using g),fun g=>S.t30 (by simpa using g),fun g=>S.t31 (by simpa using g),fun g=>S.t32 (by simpa using g),fun g=>S.t33 (by simpa using g),fun g=>S.t34 (by simpa using g),fun g=>S.t35 (by simpa using g),fun g=>S.t36 (by simpa using g),fun g=>S.t38 (by simpa using g),fun g=>S.t39 (by simpa using g),fun g=>S.t40 (by simpa using g),fun g=>S.t42 (by simpa using g),fun g=>S.t43 (by simpa using g),fun g=>S.t44 (by simpa using g),fun g=>S.t46 (by simpa using g),fun g=>S.t47 (by simpa using g),fun g=>S.t48 (by simpa using g)⟩
    | 42,_,ho,hsi,hT=>
      obtain ⟨e1,e2⟩:=pick_of h42 ho
      have D2:s 2=true:=list_pos hT (d:=2) (by decide)
      refine step_val (v:=.pointer (some ⟨G,0,none⟩)) (by simp only [execOp,e1,S.t2 D2]; go_simp) (hK _ _ ?_)
      rw [e2]
      exact ⟨_,_,_,_,_,_,_,_,ofp S.off,by simpa using S.before,kp S.t0,kp S.t1,kp S.t2,kp S.t3,kp S.t4,kp S.t5,kp S.t6,kp S.t7,kp S.t8,kp S.t9,kp S.t10,kp S.t11,kp S.t12,kp S.t13,kp S.t14,kp S.t15,kp S.t16,kp S.t17,kp S.t18,kp S.t19,kp S.t20,kp S.t21,kp S.t22,kp S.t23,kp S.t24,kp S.t25,kp S.t26,kp S.t27,kp S.t28,kp S.t29,kp S.t30,kp S.t31,kp S.t32,kp S.t33,kp S.t34,kp S.t35,kp S.t36,kp S.t38,kp S.t39,kp S.t40,ev_ (by omega),kp S.t43,kp S.t44,kp S.t46,kp S.t47,kp S.t48⟩
    | 43,_,ho,hsi,hT=>
      obtain ⟨e1,e2⟩:=pick_of h43 ho
      have D42:s 42=true:=list_pos hT (d:=42) (by decide)
      refine step_val (v:=.pointer (some ⟨G,1,none⟩)) (by simp only [execOp,e1,S.t42 D42]; go_simp) (hK _ _ ?_)
      rw [e2]
      exact ⟨_,_,_,_,_,_,_,_,ofp S.off,by simpa using S.before,kp S.t0,kp S.t1,kp S.t2,kp S.t3,kp S.t4,kp S.t5,kp S.t6,kp S.t7,kp S.t8,kp S.t9,kp S.t10,kp S.t11,kp S.t12,kp S.t13,kp S.t14,kp S.t15,kp S.t16,kp S.t17,kp S.t18,kp S.t19,kp S.t20,kp S.t21,kp S.t22,kp S.t23,kp S.t24,kp S.t25,kp S.t26,kp S.t27,kp S.t28,kp S.t29,kp S.t30,kp S.t31,kp S.t32,kp S.t33,kp S.t34,kp S.t35,kp S.t36,kp S.t38,kp S.t39,kp S.t40,kp S.t42,ev_ (by omega),kp S.t44,kp S.t46,kp S.t47,kp S.t48⟩
    | 44,_,ho,hsi,hT=>
      obtain ⟨e1,e2⟩:=pick_of h44 ho
      have D43:s 43=true:=list_pos hT (d:=43) (by decide)
      refine step_val (v:=.pointer (some ⟨G,5,none⟩)) (by simp only [execOp,e1,S.t43 D43]; go_simp) (hK _ _ ?_)
      rw [e2]
      exact ⟨_,_,_,_,_,_,_,_,ofp S.off,by simpa using S.before,kp S.t0,kp S.t1,kp S.t2,kp S.t3,kp S.t4,kp S.t5,kp S.t6,kp S.t7,kp S.t8,kp S.t9,kp S.t10,kp S.t11,kp S.t12,kp S.t13,kp S.t14,kp S.t15,kp S.t16,kp S.t17,kp S.t18,kp S.t19,kp S.t20,kp S.t21,kp S.t22,kp S.t23,kp S.t24,kp S.t25,kp S.t26,kp S.t27,kp S.t28,kp S.t29,kp S.t30,kp S.t31,kp S.t32,kp S.t33,kp S.t34,kp S.t35,kp S.t36,kp S.t38,kp S.t39,kp S.t40,kp S.t42,kp S.t43,ev_ (by omega),kp S.t46,kp S.t47,kp S.t48⟩
    | 45,_,ho,hsi,hT=>
      obtain ⟨e1,e2⟩:=pick_of h45 ho
      have D44:s 44=true:=list_pos hT (d:=44) (by decide)
      have D26:s 26=true:=list_pos hT (d:=26) (by decide)
      have BW:=S.before
      rw [hsi] at BW
      obtain ⟨u,hc,hf,WW0⟩:=tput3 D26 BW
      refine step_to (store_intsV e1 (S.t44 D44) (S.t26 D26) (tsl3 D26 BW) hc hf) (hK _ _ ?_)
      have WW:Wt n5 G M T W0 z Pp Oo Fr To p c R b1 v1 b2 v2 b3 v3 b4 v4 (if 10=45 then true else s 10) (if 11=45 then true else s 11) (if 18=45 then true else s 18) (if 19=45 then true else s 19) (if 25=45 then true else s 25) (if 26=45 then true else s 26) (if 32=45 then true else s 32) (if 33=45 then true else s 33) (if 37=45 then true else s 37) (if 41=45 then true else s 41) (if 45=45 then true else s 45) false (w'.setCell ⟨G,5,none⟩ v3):=by simpa using WW0
      rw [e2]
      exact ⟨_,_,_,_,_,_,_,_,S.off.put_none _,WW,fun g=>S.t0 (by simpa using g),fun g=>S.t1 (by simpa using g),fun g=>S.t2 (by simpa using g),fun g=>S.t3 (by simpa using g),fun g=>S.t4 (by simpa using g),fun g=>S.t5 (by simpa using g),fun g=>S.t6 (by simpa using g),fun g=>S.t7 (by simpa using g),fun g=>S.t8 (by simpa using g),fun g=>S.t9 (by simpa using g),fun g=>S.t10 (by simpa using g),fun g=>S.t11 (by simpa using g),fun g=>S.t12 (by simpa using g),fun g=>S.t13 (by simpa using g),fun g=>S.t14 (by simpa using g),fun g=>S.t15 (by simpa using g),fun g=>S.t16 (by simpa using g),fun g=>S.t17 (by simpa using g),fun g=>S.t18 (by simpa using g),fun g=>S.t19 (by simpa using g),fun g=>S.t20 (by simpa using g),fun g=>S.t21 (by simpa using g),fun g=>S.t22 (by simpa using g),fun g=>S.t23 (by simpa using g),fun g=>S.t24 (by simpa using g),fun g=>S.t25 (by simpa using g),fun g=>S.t26 (by simpa using g),fun g=>S.t27 (by simpa using g),fun g=>S.t28 (by simpa using g),fun g=>S.t29 (by simpa using g),fun g=>S.t30 (by simpa using g),fun g=>S.t31 (by simpa using g),fun g=>S.t32 (by simpa using g),fun g=>S.t33 (by simpa using g),fun g=>S.t34 (by simpa using g),fun g=>S.t35 (by simpa using g),fun g=>S.t36 (by simpa using g),fun g=>S.t38 (by simpa using g),fun g=>S.t39 (by simpa using g),fun g=>S.t40 (by simpa using g),fun g=>S.t42 (by simpa using g),fun g=>S.t43 (by simpa using g),fun g=>S.t44 (by simpa using g),fun g=>S.t46 (by simpa using g),fun g=>S.t47 (by simpa using g),fun g=>S.t48 (by simpa using g)⟩
    | 46,_,ho,hsi,hT=>
      obtain ⟨e1,e2⟩:=pick_of h46 ho
      have D3:s 3=true:=list_pos hT (d:=3) (by decide)
      refine step_val (v:=.pointer (some ⟨G,0,none⟩)) (by simp only [execOp,e1,S.t3 D3]; go_simp) (hK _ _ ?_)
      rw [e2]
      exact ⟨_,_,_,_,_,_,_,_,ofp S.off,by simpa using S.before,kp S.t0,kp S.t1,kp S.t2,kp S.t3,kp S.t4,kp S.t5,kp S.t6,kp S.t7,kp S.t8,kp S.t9,kp S.t10,kp S.t11,kp S.t12,kp S.t13,kp S.t14,kp S.t15,kp S.t16,kp S.t17,kp S.t18,kp S.t19,kp S.t20,kp S.t21,kp S.t22,kp S.t23,kp S.t24,kp S.t25,kp S.t26,kp S.t27,kp S.t28,kp S.t29,kp S.t30,kp S.t31,kp S.t32,kp S.t33,kp S.t34,kp S.t35,kp S.t36,kp S.t38,kp S.t39,kp S.t40,kp S.t42,kp S.t43,kp S.t44,ev_ (by omega),kp S.t47,kp S.t48⟩
    | 47,_,ho,hsi,hT=>
      obtain ⟨e1,e2⟩:=pick_of h47 ho
      have D46:s 46=true:=list_pos hT (d:=46) (by decide)
      refine step_val (v:=.pointer (some ⟨G,1,none⟩)) (by simp only [execOp,e1,S.t46 D46]; go_simp) (hK _ _ ?_)
      rw [e2]
      exact ⟨_,_,_,_,_,_,_,_,ofp S.off,by simpa using S.before,kp S.t0,kp S.t1,kp S.t2,kp S.t3,kp S.t4,kp S.t5,kp S.t6,kp S.t7,kp S.t8,kp S.t9,kp S.t10,kp S.t11,kp S.t12,kp S.t13,kp S.t14,kp S.t15,kp S.t16,kp S.t17,kp S.t18,kp S.t19,kp S.t20,kp S.t21,kp S.t22,kp S.t23,kp S.t24,kp S.t25,kp S.t26,kp S.t27,kp S.t28,kp S.t29,kp S.t30,kp S.t31,kp S.t32,kp S.t33,kp S.t34,kp S.t35,kp S.t36,kp S.t38,kp S.t39,kp S.t40,kp S.t42,kp S.t43,kp S.t44,kp S.t46,ev_ (by omega),kp S.t48⟩
    | 48,_,ho,hsi,hT=>
      obtain ⟨e1,e2⟩:=pick_of h48 ho
      have D47:s 47=true:=list_pos hT (d:=47) (by decide)
      refine step_val (v:=.pointer (some ⟨G,6,none⟩)) (by simp only [execOp,e1,S.t47 D47]; go_simp) (hK _ _ ?_)
      rw [e2]
      exact ⟨_,_,_,_,_,_,_,_,ofp S.off,by simpa using S.before,kp S.t0,kp S.t1,kp S.t2,kp S.t3,kp S.t4,kp S.t5,kp S.t6,kp S.t7,kp S.t8,kp S.t9,kp S.t10,kp S.t11,kp S.t12,kp S.t13,kp S.t14,kp S.t15,kp S.t16,kp S.t17,kp S.t18,kp S.t19,kp S.t20,kp S.t21,kp S.t22,kp S.t23,kp S.t24,kp S.t25,kp S.t26,kp S.t27,kp S.t28,kp S.t29,kp S.t30,kp S.t31,kp S.t32,kp S.t33,kp S.t34,kp S.t35,kp S.t36,kp S.t38,kp S.t39,kp S.t40,kp S.t42,kp S.t43,kp S.t44,kp S.t46,kp S.t47,ev_ (by omega)⟩
    | _ + 49,il,_,_,_=>exact absurd il (by omega)
  intro s a w' ⟨b1,v1,b2,v2,b3,v3,b4,v4,S⟩ hall
  have a0:=hall 0 (by omega)
  have a1:=hall 1 (by omega)
  have a2:=hall 2 (by omega)
  have a3:=hall 3 (by omega)
  have a4:=hall 4 (by omega)
  have a5:=hall 5 (by omega)
  have a6:=hall 6 (by omega)
  have a7:=hall 7 (by omega)
  have a8:=hall 8 (by omega)
  have a9:=hall 9 (by omega)
  have a10:=hall 10 (by omega)
  have a11:=hall 11 (by omega)
  have a12:=hall 12 (by omega)
  have a13:=hall 13 (by omega)
  have a14:=hall 14 (by omega)
  have a15:=hall 15 (by omega)
  have a16:=hall 16 (by omega)
  have a17:=hall 17 (by omega)
  have a18:=hall 18 (by omega)
  have a19:=hall 19 (by omega)
  have a20:=hall 20 (by omega)
  have a21:=hall 21 (by omega)
  have a22:=hall 22 (by omega)
  have a23:=hall 23 (by omega)
  have a24:=hall 24 (by omega)
  have a25:=hall 25 (by omega)
  have a26:=hall 26 (by omega)
  have a27:=hall 27 (by omega)
  have a28:=hall 28 (by omega)
  have a29:=hall 29 (by omega)
  have a30:=hall 30 (by omega)
  have a31:=hall 31 (by omega)
  have a32:=hall 32 (by omega)
  have a33:=hall 33 (by omega)
  have a34:=hall 34 (by omega)
  have a35:=hall 35 (by omega)
  have a36:=hall 36 (by omega)
  have a37:=hall 37 (by omega)
  have a38:=hall 38 (by omega)
  have a39:=hall 39 (by omega)
  have a40:=hall 40 (by omega)
  have a41:=hall 41 (by omega)
  have a42:=hall 42 (by omega)
  have a43:=hall 43 (by omega)
  have a44:=hall 44 (by omega)
  have a45:=hall 45 (by omega)
  have a46:=hall 46 (by omega)
  have a47:=hall 47 (by omega)
  have a48:=hall 48 (by omega)
  have e:=off_norm _ (by intro d hd; simp at hd; omega) S.off
  simp only [List.foldl,S.t0 a0,S.t1 a1,S.t2 a2,S.t3 a3,S.t4 a4,S.t5 a5,S.t6 a6,S.t7 a7,S.t8 a8,S.t9 a9,S.t10 a10,S.t11 a11,S.t12 a12,S.t13 a13,S.t14 a14,S.t15 a15,S.t16 a16,S.t17 a17,S.t18 a18,S.t19 a19,S.t20 a20,S.t21 a21,S.t22 a22,S.t23 a23,S.t24 a24,S.t25 a25,S.t26 a26,S.t27 a27,S.t28 a28,S.t29 a29,S.t30 a30,S.t31 a31,S.t32 a32,S.t33 a33,S.t34 a34,S.t35 a35,S.t36 a36,S.t38 a38,S.t39 a39,S.t40 a40,S.t42 a42,S.t43 a43,S.t44 a44,S.t46 a46,S.t47 a47,S.t48 a48] at e
  have BW:=S.before
  rw [a10,a11,a18,a19,a25,a26,a32,a33,a37,a41,a45] at BW
  rw [e]
  exact h _ _ _ _ _ _ _ _ _ BW
def Wg (n5 G M:Nat) (T:Nat->Prop) (W0:World) (z:Sz) (Bg:List Value) (x:Int) (R:List Rw) (b1:Nat) (v1:Value) (m11 m12 m15:Bool) (w:World):Prop:=
  SW n5 G T W0 ([⟨cond m12 v1 z.v7,3,cond m12 (Bg ++ [.int .i64 x]) Bg⟩,⟨cond m11 (.slice (some ⟨b1,0,none⟩) 1 1) (.slice none 0 0),3,cond m11 [.int .i64 x] []⟩] ++ R) (sC M { z with v7:=cond m15 v1 z.v7 }) w
section
variable {n5 G M:Nat} {T:Nat->Prop} {W0 w':World} {z:Sz} {Bg:List Value} {x:Int} {R:List Rw} {b1:Nat} {v1:Value} {m11 m12 m15:Bool} {ev:Operand->Value} {oo:Oper}
theorem gapp1 (h5:ev (.tmp 123)=z.v7) (h7:ev (.tmp 130)=.slice (some ⟨b1,0,none⟩) 1 1) (e1:oo.op=.call { callee:=.builtin .append,args:=#[.tmp 123,.tmp 130],argTypes:=#[72,72] }) (hF:Bg.length<=1000000) (d:m11=true) (n:m15=false)
    (h:Wg n5 G M T W0 z Bg x R b1 v1 m11 false m15 w'):∃ v' w2,(execOp ev oo).run Tryz.prog w'=.ok (.value v') w2/\Wg n5 G M T W0 z Bg x R b1 v' m11 true m15 w2:=by
  subst d n
  obtain ⟨ti,hi,hz,hs,hy⟩:=info_parts info_in
  obtain ⟨v',w2,hr,k⟩:=SW.app h (i:=0) (k:=1) rfl rfl rfl 72 oo.type Tryz.underlying72 hi hz hs hy rfl hF (by omega)
  exact ⟨v',w2,exec_append e1 h5 h7 hr,k⟩
theorem gsl1 (d:m12=true) (h:Wg n5 G M T W0 z Bg x R b1 v1 m11 m12 false w'):∃ a n c,v1=.slice a n c:=by
  subst d
  exact SW.is h (i:=0) rfl
theorem gput1 (d:m12=true) (h:Wg n5 G M T W0 z Bg x R b1 v1 m11 m12 false w'):∃ u,w'.cell? ⟨G,24,none⟩=some u/\w'.frozen? ⟨G,24,none⟩=false/\Wg n5 G M T W0 z Bg x R b1 v1 m11 m12 true (w'.setCell ⟨G,24,none⟩ v1):=
  ⟨_,h.cel.cell (by omega),h.cel.frozen (by omega),(SW.put h 24 v1).congr (fun j _=>sC_v7 M _ v1 j)⟩
end
structure SwRegion13 (n5 G M:Nat) (T:Nat->Prop) (W0:World) (z:Sz) (Bg:List Value) (x:Int) (c:Nat) (R:List Rw) (b1:Nat) (v1:Value) (A:Act) (w0:World) (s:Nat->Bool) (a:Act) (w:World):Prop where
  off:Off [119,120,121,122,123,124,125,126,127,128,129,130,131,132,133] a A
  before:Wg n5 G M T W0 z Bg x R b1 v1 (s 11) (s 12) false w
  t0:s 0=true->a.eval (.tmp 119)=.pointer (some ⟨G,0,none⟩)
  t1:s 1=true->a.eval (.tmp 120)=.pointer (some ⟨G,0,none⟩)
  t2:s 2=true->a.eval (.tmp 121)=.pointer (some ⟨G,0,none⟩)
  t3:s 3=true->a.eval (.tmp 122)=.pointer (some ⟨G,24,none⟩)
  t4:s 4=true->a.eval (.tmp 123)=z.v7
  t5:s 5=true->a.eval (.tmp 124)=.pointer (some ⟨G,0,none⟩)
  t6:s 6=true->a.eval (.tmp 125)=.int .i64 (c:Nat)
  t7:s 7=true->a.eval (.tmp 126)=.pointer (some ⟨G,0,none⟩)
  t8:s 8=true->a.eval (.tmp 127)=.pointer (some ⟨G,8,none⟩)
  t9:s 9=true->a.eval (.tmp 128)=.pointer (some ⟨G,8 + c,none⟩)
  t10:s 10=true->a.eval (.tmp 129)=.int .i64 x
  t11:s 11=true->a.eval (.tmp 130)=.slice (some ⟨b1,0,none⟩) 1 1
  t12:s 12=true->a.eval (.tmp 131)=v1
  t13:s 13=true->a.eval (.tmp 132)=.pointer (some ⟨G,0,none⟩)
  t14:s 14=true->a.eval (.tmp 133)=.pointer (some ⟨G,24,none⟩)
theorem swRegion13 {id:Nat} {l:List Oper} {A:Act} {w:World} {Q:Exit->Act->World->Prop} (n5 G M:Nat) (T:Nat->Prop) (W0:World) (z:Sz) (Bg:List Value) (x:Int) (c:Nat) (R:List Rw)
    (hW0:Wg n5 G M T W0 z Bg x R 0 z.v7 false false false w.drew) (hz7:∃ a n c,z.v7=.slice a n c) (hl:Bg.length<=1000000) (hc:c < 8) (hx:z.by' c=x)
    (hB:tableH l.toArray 15 (fun i=>match i with | 0=>[] | 1=>[] | 2=>[1] | 3=>[2] | 4=>[3] | 5=>[] | 6=>[] | 7=>[5] | 8=>[7] | 9=>[8,6] | 10=>[9] | 11=>[10] | 12=>[4,11] | 13=>[0] | 14=>[13] | _=>[]) (fun i=>match i with | 11=>[12] | _=>[])=true)
    (h0:pick l 0=some (.move (.tmp 7),some 119))
    (h1:pick l 1=some (.move (.tmp 7),some 120))
    (h2:pick l 2=some (.nilCheck (.tmp 120),some 121))
    (h3:pick l 3=some (.fieldAddr 119 (.tmp 121) 4,some 122))
    (h4:pick l 4=some (.load 72 (.tmp 122),some 123))
    (h5:pick l 5=some (.move (.tmp 7),some 124))
    (h6:pick l 6=some (.move (.tmp 9),some 125))
    (h7:pick l 7=some (.nilCheck (.tmp 124),some 126))
    (h8:pick l 8=some (.fieldAddr 119 (.tmp 126) 2,some 127))
    (h9:pick l 9=some (.indexAddr 22 (.tmp 127) (.tmp 125),some 128))
    (h10:pick l 10=some (.load 3 (.tmp 128),some 129))
    (h11:pick l 11=some (.buildSlice 72 1 #[(0,.tmp 129)],some 130))
    (h12:pick l 12=some (.call { callee:=.builtin .append,args:=#[.tmp 123,.tmp 130],argTypes:=#[72,72] },some 131))
    (h13:pick l 13=some (.nilCheck (.tmp 119),some 132))
    (h14:pick l 14=some (.fieldAddr 119 (.tmp 132) 4,some 133))
    (hs:A.tmps.size=197)
    (x7:A.eval (.tmp 7)=.pointer (some ⟨G,0,none⟩))
    (x9:A.eval (.tmp 9)=.int .i64 (c:Nat))
    (h:∀ (b1:Nat) (v1:Value) (w1:World),Wg n5 G M T W0 z Bg x R b1 v1 true true false w1->wpList Tryz.prog l.toArray Q (l.drop 15) (((((((((((((((A.put (some 119) (.pointer (some ⟨G,0,none⟩))).put (some 120) (.pointer (some ⟨G,0,none⟩))).put (some 121) (.pointer (some ⟨G,0,none⟩))).put (some 122) (.pointer (some ⟨G,24,none⟩))).put (some 123) (z.v7)).put (some 124) (.pointer (some ⟨G,0,none⟩))).put (some 125) (.int .i64 (c:Nat))).put (some 126) (.pointer (some ⟨G,0,none⟩))).put (some 127) (.pointer (some ⟨G,8,none⟩))).put (some 128) (.pointer (some ⟨G,8 + c,none⟩))).put (some 129) (.int .i64 x)).put (some 130) (.slice (some ⟨b1,0,none⟩) 1 1)).put (some 131) (v1)).put (some 132) (.pointer (some ⟨G,0,none⟩))).put (some 133) (.pointer (some ⟨G,24,none⟩))) w1):
    (Code.region id l.toArray true).wp Tryz.prog Q A w:=by
  refine wp_region_head (by kernel_rfl) _ _ _ hB (fun s a w'=>∃ (b1:Nat) (v1:Value),SwRegion13 n5 G M T W0 z Bg x c R b1 v1 A w s a w') ⟨0,z.v7,Off.refl _ _,hW0,by simp,by simp,by simp,by simp,by simp,by simp,by simp,by simp,by simp,by simp,by simp,by simp,by simp,by simp,by simp⟩ ?_ ?_
  · intro s a w' ⟨b1,v1,S⟩ i' o il ho hsi hT K hK
    have sz:a.tmps.size=197:=by rw [S.off.2.1]; exact hs
    have y7:a.eval (.tmp 7)=.pointer (some ⟨G,0,none⟩):=by rw [S.off.eval (by decide)]; exact x7
    have y9:a.eval (.tmp 9)=.int .i64 (c:Nat):=by rw [S.off.eval (by decide)]; exact x9
    match i',il,ho,hsi,hT with
    | 0,_,ho,hsi,hT=>
      obtain ⟨e1,e2⟩:=pick_of h0 ho
      refine step_val (v:=.pointer (some ⟨G,0,none⟩)) (by simp only [execOp,e1,y7]; go_simp) (hK _ _ ?_)
      rw [e2]
      exact ⟨_,_,ofp S.off,by simpa using S.before,ev_ (by omega),kp S.t1,kp S.t2,kp S.t3,kp S.t4,kp S.t5,kp S.t6,kp S.t7,kp S.t8,kp S.t9,kp S.t10,kp S.t11,kp S.t12,kp S.t13,kp S.t14⟩
    | 1,_,ho,hsi,hT=>
      obtain ⟨e1,e2⟩:=pick_of h1 ho
      refine step_val (v:=.pointer (some ⟨G,0,none⟩)) (by simp only [execOp,e1,y7]; go_simp) (hK _ _ ?_)
      rw [e2]
      exact ⟨_,_,ofp S.off,by simpa using S.before,kp S.t0,ev_ (by omega),kp S.t2,kp S.t3,kp S.t4,kp S.t5,kp S.t6,kp S.t7,kp S.t8,kp S.t9,kp S.t10,kp S.t11,kp S.t12,kp S.t13,kp S.t14⟩
    | 2,_,ho,hsi,hT=>
      obtain ⟨e1,e2⟩:=pick_of h2 ho
      have D1:s 1=true:=list_pos hT (d:=1) (by decide)
      refine step_val (v:=.pointer (some ⟨G,0,none⟩)) (by simp only [execOp,e1,S.t1 D1]; go_simp) (hK _ _ ?_)
      rw [e2]
      exact ⟨_,_,ofp S.off,by simpa using S.before,kp S.t0,kp S.t1,ev_ (by omega),kp S.t3,kp S.t4,kp S.t5,kp S.t6,kp S.t7,kp S.t8,kp S.t9,kp S.t10,kp S.t11,kp S.t12,kp S.t13,kp S.t14⟩
    | 3,_,ho,hsi,hT=>
      obtain ⟨e1,e2⟩:=pick_of h3 ho
      have D2:s 2=true:=list_pos hT (d:=2) (by decide)
      refine step_val (v:=.pointer (some ⟨G,24,none⟩)) (by simp only [execOp,e1,S.t2 D2]; go_simp) (hK _ _ ?_)
      rw [e2]
      exact ⟨_,_,ofp S.off,by simpa using S.before,kp S.t0,kp S.t1,kp S.t2,ev_ (by omega),kp S.t4,kp S.t5,kp S.t6,kp S.t7,kp S.t8,kp S.t9,kp S.t10,kp S.t11,kp S.t12,kp S.t13,kp S.t14⟩
    | 4,_,ho,hsi,hT=>
      obtain ⟨e1,e2⟩:=pick_of h4 ho
      have D3:s 3=true:=list_pos hT (d:=3) (by decide)
      have BW:=S.before
      have cc:w'.cell? ⟨G,24,none⟩=some z.v7:=BW.cel.cell (j:=24) (by omega)
      obtain ⟨q1,q2,q3,hq⟩:=hz7
      rw [hq] at cc
      refine step_val (v:=z.v7) (by simp only [execOp,e1,S.t3 D3]; rw [hq]; go_simp) (hK _ _ ?_)
      rw [e2]
      exact ⟨_,_,ofp S.off,by simpa using S.before,kp S.t0,kp S.t1,kp S.t2,kp S.t3,ev_ (by omega),kp S.t5,kp S.t6,kp S.t7,kp S.t8,kp S.t9,kp S.t10,kp S.t11,kp S.t12,kp S.t13,kp S.t14⟩
    | 5,_,ho,hsi,hT=>
      obtain ⟨e1,e2⟩:=pick_of h5 ho
      refine step_val (v:=.pointer (some ⟨G,0,none⟩)) (by simp only [execOp,e1,y7]; go_simp) (hK _ _ ?_)
      rw [e2]
      exact ⟨_,_,ofp S.off,by simpa using S.before,kp S.t0,kp S.t1,kp S.t2,kp S.t3,kp S.t4,ev_ (by omega),kp S.t6,kp S.t7,kp S.t8,kp S.t9,kp S.t10,kp S.t11,kp S.t12,kp S.t13,kp S.t14⟩
    | 6,_,ho,hsi,hT=>
      obtain ⟨e1,e2⟩:=pick_of h6 ho
      refine step_val (v:=.int .i64 (c:Nat)) (by simp only [execOp,e1,y9]; go_simp) (hK _ _ ?_)
      rw [e2]
      exact ⟨_,_,ofp S.off,by simpa using S.before,kp S.t0,kp S.t1,kp S.t2,kp S.t3,kp S.t4,kp S.t5,ev_ (by omega),kp S.t7,kp S.t8,kp S.t9,kp S.t10,kp S.t11,kp S.t12,kp S.t13,kp S.t14⟩
    | 7,_,ho,hsi,hT=>
      obtain ⟨e1,e2⟩:=pick_of h7 ho
      have D5:s 5=true:=list_pos hT (d:=5) (by decide)
      refine step_val (v:=.pointer (some ⟨G,0,none⟩)) (by simp only [execOp,e1,S.t5 D5]; go_simp) (hK _ _ ?_)
      rw [e2]
      exact ⟨_,_,ofp S.off,by simpa using S.before,kp S.t0,kp S.t1,kp S.t2,kp S.t3,kp S.t4,kp S.t5,kp S.t6,ev_ (by omega),kp S.t8,kp S.t9,kp S.t10,kp S.t11,kp S.t12,kp S.t13,kp S.t14⟩
    | 8,_,ho,hsi,hT=>
      obtain ⟨e1,e2⟩:=pick_of h8 ho
      have D7:s 7=true:=list_pos hT (d:=7) (by decide)
      refine step_val (v:=.pointer (some ⟨G,8,none⟩)) (by simp only [execOp,e1,S.t7 D7]; go_simp) (hK _ _ ?_)
      rw [e2]
      exact ⟨_,_,ofp S.off,by simpa using S.before,kp S.t0,kp S.t1,kp S.t2,kp S.t3,kp S.t4,kp S.t5,kp S.t6,kp S.t7,ev_ (by omega),kp S.t9,kp S.t10,kp S.t11,kp S.t12,kp S.t13,kp S.t14⟩
    | 9,_,ho,hsi,hT=>
      obtain ⟨e1,e2⟩:=pick_of h9 ho
      have D8:s 8=true:=list_pos hT (d:=8) (by decide)
      have D6:s 6=true:=list_pos hT (d:=6) (by decide)
      have hc8:=hc
      refine step_val (v:=.pointer (some ⟨G,8 + c,none⟩)) (by simp only [execOp,e1,S.t8 D8,S.t6 D6]; go_simp; try omega) (hK _ _ ?_)
      rw [e2]
      exact ⟨_,_,ofp S.off,by simpa using S.before,kp S.t0,kp S.t1,kp S.t2,kp S.t3,kp S.t4,kp S.t5,kp S.t6,kp S.t7,kp S.t8,ev_ (by omega),kp S.t10,kp S.t11,kp S.t12,kp S.t13,kp S.t14⟩
    | 10,_,ho,hsi,hT=>
      obtain ⟨e1,e2⟩:=pick_of h10 ho
      have D9:s 9=true:=list_pos hT (d:=9) (by decide)
      have BW:=S.before
      have cc:w'.cell? ⟨G,8 + c,none⟩=some (.int .i64 x):=by have:=BW.cel.cell (j:=8 + c) (by omega); rw [this,sC_by _ _ hc,<-hx]
      refine step_val (v:=.int .i64 x) (by simp only [execOp,e1,S.t9 D9]; go_simp) (hK _ _ ?_)
      rw [e2]
      exact ⟨_,_,ofp S.off,by simpa using S.before,kp S.t0,kp S.t1,kp S.t2,kp S.t3,kp S.t4,kp S.t5,kp S.t6,kp S.t7,kp S.t8,kp S.t9,ev_ (by omega),kp S.t11,kp S.t12,kp S.t13,kp S.t14⟩
    | 11,_,ho,hsi,hT=>
      obtain ⟨e1,e2⟩:=pick_of h11 ho
      have D10:s 10=true:=list_pos hT (d:=10) (by decide)
      have N12:s 12=false:=list_neg hT (k:=12) (by decide)
      have BW:=S.before
      have qq:a.tmps[129]'(by omega)=.int .i64 x:=by have:=S.t10 D10; simpa [Act.eval,sz] using this
      rw [hsi] at BW
      obtain ⟨gh,w2,hr,WW0⟩:=(⟨w'.heap.size,w'.alloc (.cells #[.int .i64 x] 3),by simp only [execOp,e1]; go_simp,SW.build (i:=1) BW rfl⟩:∃ gh w2,(execOp a.eval o).run Tryz.prog w'=.ok (.value (.slice (some ⟨gh,0,none⟩) 1 1)) w2/\Wg n5 G M T W0 z Bg x R gh v1 true (s 12) false w2)
      refine step_to1 hr (hK _ _ ?_)
      have WW:Wg n5 G M T W0 z Bg x R gh v1 (if 11=11 then true else s 11) (if 12=11 then true else s 12) false w2:=by simpa using WW0
      rw [e2]
      exact ⟨_,_,ofp S.off,WW,kp S.t0,kp S.t1,kp S.t2,kp S.t3,kp S.t4,kp S.t5,kp S.t6,kp S.t7,kp S.t8,kp S.t9,kp S.t10,ev_ (by omega),kp S.t12,kp S.t13,kp S.t14⟩
    | 12,_,ho,hsi,hT=>
      obtain ⟨e1,e2⟩:=pick_of h12 ho
      have D4:s 4=true:=list_pos hT (d:=4) (by decide)
      have D11:s 11=true:=list_pos hT (d:=11) (by decide)
      have BW:=S.before
      rw [hsi] at BW
      obtain ⟨gh,w2,hr,WW0⟩:=gapp1 (S.t4 D4) (S.t11 D11) e1 hl D11 rfl BW
      refine step_to1 hr (hK _ _ ?_)
      have WW:Wg n5 G M T W0 z Bg x R b1 gh (if 11=12 then true else s 11) (if 12=12 then true else s 12) false w2:=by simpa using WW0
      rw [e2]
      exact ⟨_,_,ofp S.off,WW,kp S.t0,kp S.t1,kp S.t2,kp S.t3,kp S.t4,kp S.t5,kp S.t6,kp S.t7,kp S.t8,kp S.t9,kp S.t10,kp S.t11,ev_ (by omega),kp S.t13,kp S.t14⟩
    | 13,_,ho,hsi,hT=>
      obtain ⟨e1,e2⟩:=pick_of h13 ho
      have D0:s 0=true:=list_pos hT (d:=0) (by decide)
      refine step_val (v:=.pointer (some ⟨G,0,none⟩)) (by simp only [execOp,e1,S.t0 D0]; go_simp) (hK _ _ ?_)
      rw [e2]
      exact ⟨_,_,ofp S.off,by simpa using S.before,kp S.t0,kp S.t1,kp S.t2,kp S.t3,kp S.t4,kp S.t5,kp S.t6,kp S.t7,kp S.t8,kp S.t9,kp S.t10,kp S.t11,kp S.t12,ev_ (by omega),kp S.t14⟩
    | 14,_,ho,hsi,hT=>
      obtain ⟨e1,e2⟩:=pick_of h14 ho
      have D13:s 13=true:=list_pos hT (d:=13) (by decide)
      refine step_val (v:=.pointer (some ⟨G,24,none⟩)) (by simp only [execOp,e1,S.t13 D13]; go_simp) (hK _ _ ?_)
      rw [e2]
      exact ⟨_,_,ofp S.off,by simpa using S.before,kp S.t0,kp S.t1,kp S.t2,kp S.t3,kp S.t4,kp S.t5,kp S.t6,kp S.t7,kp S.t8,kp S.t9,kp S.t10,kp S.t11,kp S.t12,kp S.t13,ev_ (by omega)⟩
    | _ + 15,il,_,_,_=>exact absurd il (by omega)
  intro s a w' ⟨b1,v1,S⟩ hall
  have a0:=hall 0 (by omega)
  have a1:=hall 1 (by omega)
  have a2:=hall 2 (by omega)
  have a3:=hall 3 (by omega)
  have a4:=hall 4 (by omega)
  have a5:=hall 5 (by omega)
  have a6:=hall 6 (by omega)
  have a7:=hall 7 (by omega)
  have a8:=hall 8 (by omega)
  have a9:=hall 9 (by omega)
  have a10:=hall 10 (by omega)
  have a11:=hall 11 (by omega)
  have a12:=hall 12 (by omega)
  have a13:=hall 13 (by omega)
  have a14:=hall 14 (by omega)
  have e:=off_norm _ (by intro d hd; simp at hd; omega) S.off
  simp only [List.foldl,S.t0 a0,S.t1 a1,S.t2 a2,S.t3 a3,S.t4 a4,S.t5 a5,S.t6 a6,S.t7 a7,S.t8 a8,S.t9 a9,S.t10 a10,S.t11 a11,S.t12 a12,S.t13 a13,S.t14 a14] at e
  have BW:=S.before
  rw [a11,a12] at BW
  rw [e]
  exact h _ _ _ BW
def Wy (n5 G M:Nat) (T:Nat->Prop) (W0:World) (z:Sz) (L:List Rw) (c:Nat) (y:Int) (m14:Bool) (w:World):Prop:=SW n5 G T W0 L (sC M (cond m14 { z with by':=Ch.upd z.by' c y } z)) w
theorem sC_upd (M:Nat) (z:Sz) (c:Nat) (y:Int) (hc:c < 8) (j:Nat) (hj:j < 25):(if j=8 + c then .int .i64 y else sC M z j)=sC M { z with by':=Ch.upd z.by' c y } j:=by
  by_cases h:j=8 + c
  · subst h
    rw [if_pos rfl,sC_by _ _ hc]
    show _=Value.int .i64 (Ch.upd z.by' c y c)
    rw [Ch.upd_same]
  rw [if_neg h]
  by_cases h2:8<=j/\j < 16
  · obtain ⟨k,rfl⟩:∃ k,j=8 + k:=⟨j - 8,by omega⟩
    rw [sC_by _ _ (by omega),sC_by _ _ (by omega)]
    show _=Value.int .i64 (Ch.upd z.by' c y k)
    rw [Ch.upd_ne _ _ (by omega)]
  by_cases h3:j < 8
  · match j,h3 with
    | 0,_=>rfl
    | 1,_=>rfl
    | 2,_=>rfl
    | 3,_=>rfl
    | 4,_=>rfl
    | 5,_=>rfl
    | 6,_=>rfl
    | 7,_=>rfl
  by_cases h4:j=24
  · subst h4
    rfl
  obtain ⟨k,rfl⟩:∃ k,j=16 + k:=⟨j - 16,by omega⟩
  rw [sC_so _ _ (by omega),sC_so _ _ (by omega)]
theorem wput {n5 G M c:Nat} {T:Nat->Prop} {W0 w':World} {z:Sz} {L:List Rw} {y:Int} (hc:c < 8) (h:Wy n5 G M T W0 z L c y false w'):∃ u,w'.cell? ⟨G,8 + c,none⟩=some u/\w'.frozen? ⟨G,8 + c,none⟩=false/\Wy n5 G M T W0 z L c y true (w'.setCell ⟨G,8 + c,none⟩ (.int .i64 y)):=
  ⟨_,h.cel.cell (by omega),h.cel.frozen (by omega),(SW.put h (8 + c) _).congr (fun j hj=>sC_upd M z c y hc j hj)⟩
structure SwRegion14 (n5 G M:Nat) (T:Nat->Prop) (W0:World) (z:Sz) (L:List Rw) (p:ByteArray) (c:Nat) (y:Int) (A:Act) (w0:World) (s:Nat->Bool) (a:Act) (w:World):Prop where
  off:Off [134,135,136,137,138,139,140,141,142,143,144,145,146,147] a A
  before:Wy n5 G M T W0 z L c y  false w
  t0:s 0=true->a.eval (.tmp 134)=.pointer (some ⟨G,0,none⟩)
  t1:s 1=true->a.eval (.tmp 135)=.int .i64 (c:Nat)
  t2:s 2=true->a.eval (.tmp 136)=.pointer (some ⟨G,0,none⟩)
  t3:s 3=true->a.eval (.tmp 137)=.int .i64 (c:Nat)
  t4:s 4=true->a.eval (.tmp 138)=.pointer (some ⟨G,0,none⟩)
  t5:s 5=true->a.eval (.tmp 139)=.pointer (some ⟨G,8,none⟩)
  t6:s 6=true->a.eval (.tmp 140)=.pointer (some ⟨G,8 + c,none⟩)
  t7:s 7=true->a.eval (.tmp 141)=(.int .i64 (z.by' c))
  t8:s 8=true->a.eval (.tmp 142)=.string p
  t9:s 9=true->a.eval (.tmp 143)=.int .i64 (p.size:Nat)
  t10:s 10=true->a.eval (.tmp 144)=.int .i64 y
  t11:s 11=true->a.eval (.tmp 145)=.pointer (some ⟨G,0,none⟩)
  t12:s 12=true->a.eval (.tmp 146)=.pointer (some ⟨G,8,none⟩)
  t13:s 13=true->a.eval (.tmp 147)=.pointer (some ⟨G,8 + c,none⟩)
theorem swRegion14 {id:Nat} {l:List Oper} {A:Act} {w:World} {Q:Exit->Act->World->Prop} (n5 G M:Nat) (T:Nat->Prop) (W0:World) (z:Sz) (L:List Rw) (p:ByteArray) (c:Nat) (y:Int)
    (hW0:Wy n5 G M T W0 z L c y false w.drew) (hc:c < 8) (hy:IntKind.i64.wrap (z.by' c + (p.size:Nat))=y)
    (hB:tableH l.toArray 14 (fun i=>match i with | 0=>[] | 1=>[] | 2=>[] | 3=>[] | 4=>[2] | 5=>[4] | 6=>[5,3] | 7=>[6] | 8=>[] | 9=>[8] | 10=>[7,9] | 11=>[0] | 12=>[11] | 13=>[12,1] | _=>[]) (fun _=>[])=true)
    (h0:pick l 0=some (.move (.tmp 7),some 134))
    (h1:pick l 1=some (.move (.tmp 9),some 135))
    (h2:pick l 2=some (.move (.tmp 7),some 136))
    (h3:pick l 3=some (.move (.tmp 9),some 137))
    (h4:pick l 4=some (.nilCheck (.tmp 136),some 138))
    (h5:pick l 5=some (.fieldAddr 119 (.tmp 138) 2,some 139))
    (h6:pick l 6=some (.indexAddr 22 (.tmp 139) (.tmp 137),some 140))
    (h7:pick l 7=some (.load 3 (.tmp 140),some 141))
    (h8:pick l 8=some (.move (.tmp 10),some 142))
    (h9:pick l 9=some (.call { callee:=.builtin .len,args:=#[.tmp 142],argTypes:=#[9] },some 143))
    (h10:pick l 10=some (.binOp .add 3 (.tmp 141) (.tmp 143) 3,some 144))
    (h11:pick l 11=some (.nilCheck (.tmp 134),some 145))
    (h12:pick l 12=some (.fieldAddr 119 (.tmp 145) 2,some 146))
    (h13:pick l 13=some (.indexAddr 22 (.tmp 146) (.tmp 135),some 147))
    (hs:A.tmps.size=197)
    (x7:A.eval (.tmp 7)=.pointer (some ⟨G,0,none⟩))
    (x9:A.eval (.tmp 9)=.int .i64 (c:Nat))
    (x10:A.eval (.tmp 10)=.string p)
    (h:∀ w1,Wy n5 G M T W0 z L c y  false w1->wpList Tryz.prog l.toArray Q (l.drop 14) ((((((((((((((A.put (some 134) (.pointer (some ⟨G,0,none⟩))).put (some 135) (.int .i64 (c:Nat))).put (some 136) (.pointer (some ⟨G,0,none⟩))).put (some 137) (.int .i64 (c:Nat))).put (some 138) (.pointer (some ⟨G,0,none⟩))).put (some 139) (.pointer (some ⟨G,8,none⟩))).put (some 140) (.pointer (some ⟨G,8 + c,none⟩))).put (some 141) ((.int .i64 (z.by' c)))).put (some 142) (.string p)).put (some 143) (.int .i64 (p.size:Nat))).put (some 144) (.int .i64 y)).put (some 145) (.pointer (some ⟨G,0,none⟩))).put (some 146) (.pointer (some ⟨G,8,none⟩))).put (some 147) (.pointer (some ⟨G,8 + c,none⟩))) w1):
    (Code.region id l.toArray true).wp Tryz.prog Q A w:=by
  refine wp_region_head (by kernel_rfl) _ _ _ hB (SwRegion14 n5 G M T W0 z L p c y A w) ⟨Off.refl _ _,hW0,by simp,by simp,by simp,by simp,by simp,by simp,by simp,by simp,by simp,by simp,by simp,by simp,by simp,by simp⟩ ?_ ?_
  · intro s a w' S i' o il ho hsi hT K hK
    have sz:a.tmps.size=197:=by rw [S.off.2.1]; exact hs
    have y7:a.eval (.tmp 7)=.pointer (some ⟨G,0,none⟩):=by rw [S.off.eval (by decide)]; exact x7
    have y9:a.eval (.tmp 9)=.int .i64 (c:Nat):=by rw [S.off.eval (by decide)]; exact x9
    have y10:a.eval (.tmp 10)=.string p:=by rw [S.off.eval (by decide)]; exact x10
    match i',il,ho,hsi,hT with
    | 0,_,ho,hsi,hT=>
      obtain ⟨e1,e2⟩:=pick_of h0 ho
      refine step_val (v:=.pointer (some ⟨G,0,none⟩)) (by simp only [execOp,e1,y7]; go_simp) (hK _ _ ?_)
      rw [e2]
      exact ⟨ofp S.off,by simpa using S.before,ev_ (by omega),kp S.t1,kp S.t2,kp S.t3,kp S.t4,kp S.t5,kp S.t6,kp S.t7,kp S.t8,kp S.t9,kp S.t10,kp S.t11,kp S.t12,kp S.t13⟩
    | 1,_,ho,hsi,hT=>
      obtain ⟨e1,e2⟩:=pick_of h1 ho
      refine step_val (v:=.int .i64 (c:Nat)) (by simp only [execOp,e1,y9]; go_simp) (hK _ _ ?_)
      rw [e2]
      exact ⟨ofp S.off,by simpa using S.before,kp S.t0,ev_ (by omega),kp S.t2,kp S.t3,kp S.t4,kp S.t5,kp S.t6,kp S.t7,kp S.t8,kp S.t9,kp S.t10,kp S.t11,kp S.t12,kp S.t13⟩
    | 2,_,ho,hsi,hT=>
      obtain ⟨e1,e2⟩:=pick_of h2 ho
      refine step_val (v:=.pointer (some ⟨G,0,none⟩)) (by simp only [execOp,e1,y7]; go_simp) (hK _ _ ?_)
      rw [e2]
      exact ⟨ofp S.off,by simpa using S.before,kp S.t0,kp S.t1,ev_ (by omega),kp S.t3,kp S.t4,kp S.t5,kp S.t6,kp S.t7,kp S.t8,kp S.t9,kp S.t10,kp S.t11,kp S.t12,kp S.t13⟩
    | 3,_,ho,hsi,hT=>
      obtain ⟨e1,e2⟩:=pick_of h3 ho
      refine step_val (v:=.int .i64 (c:Nat)) (by simp only [execOp,e1,y9]; go_simp) (hK _ _ ?_)
      rw [e2]
      exact ⟨ofp S.off,by simpa using S.before,kp S.t0,kp S.t1,kp S.t2,ev_ (by omega),kp S.t4,kp S.t5,kp S.t6,kp S.t7,kp S.t8,kp S.t9,kp S.t10,kp S.t11,kp S.t12,kp S.t13⟩
    | 4,_,ho,hsi,hT=>
      obtain ⟨e1,e2⟩:=pick_of h4 ho
      have D2:s 2=true:=list_pos hT (d:=2) (by decide)
      refine step_val (v:=.pointer (some ⟨G,0,none⟩)) (by simp only [execOp,e1,S.t2 D2]; go_simp) (hK _ _ ?_)
      rw [e2]
      exact ⟨ofp S.off,by simpa using S.before,kp S.t0,kp S.t1,kp S.t2,kp S.t3,ev_ (by omega),kp S.t5,kp S.t6,kp S.t7,kp S.t8,kp S.t9,kp S.t10,kp S.t11,kp S.t12,kp S.t13⟩
    | 5,_,ho,hsi,hT=>
      obtain ⟨e1,e2⟩:=pick_of h5 ho
      have D4:s 4=true:=list_pos hT (d:=4) (by decide)
      refine step_val (v:=.pointer (some ⟨G,8,none⟩)) (by simp only [execOp,e1,S.t4 D4]; go_simp) (hK _ _ ?_)
      rw [e2]
      exact ⟨ofp S.off,by simpa using S.before,kp S.t0,kp S.t1,kp S.t2,kp S.t3,kp S.t4,ev_ (by omega),kp S.t6,kp S.t7,kp S.t8,kp S.t9,kp S.t10,kp S.t11,kp S.t12,kp S.t13⟩
    | 6,_,ho,hsi,hT=>
      obtain ⟨e1,e2⟩:=pick_of h6 ho
      have D5:s 5=true:=list_pos hT (d:=5) (by decide)
      have D3:s 3=true:=list_pos hT (d:=3) (by decide)
      have hc8:=hc
      refine step_val (v:=.pointer (some ⟨G,8 + c,none⟩)) (by simp only [execOp,e1,S.t5 D5,S.t3 D3]; go_simp; try omega) (hK _ _ ?_)
      rw [e2]
      exact ⟨ofp S.off,by simpa using S.before,kp S.t0,kp S.t1,kp S.t2,kp S.t3,kp S.t4,kp S.t5,ev_ (by omega),kp S.t7,kp S.t8,kp S.t9,kp S.t10,kp S.t11,kp S.t12,kp S.t13⟩
    | 7,_,ho,hsi,hT=>
      obtain ⟨e1,e2⟩:=pick_of h7 ho
      have D6:s 6=true:=list_pos hT (d:=6) (by decide)
      have BW:=S.before
      have cc:w'.cell? ⟨G,8 + c,none⟩=some (.int .i64 (z.by' c)):=by have:=BW.cel.cell (j:=8 + c) (by omega); rw [this]; exact congrArg some (sC_by M z hc)
      refine step_val (v:=(.int .i64 (z.by' c))) (by simp only [execOp,e1,S.t6 D6]; go_simp) (hK _ _ ?_)
      rw [e2]
      exact ⟨ofp S.off,by simpa using S.before,kp S.t0,kp S.t1,kp S.t2,kp S.t3,kp S.t4,kp S.t5,kp S.t6,ev_ (by omega),kp S.t8,kp S.t9,kp S.t10,kp S.t11,kp S.t12,kp S.t13⟩
    | 8,_,ho,hsi,hT=>
      obtain ⟨e1,e2⟩:=pick_of h8 ho
      refine step_val (v:=.string p) (by simp only [execOp,e1,y10]; go_simp) (hK _ _ ?_)
      rw [e2]
      exact ⟨ofp S.off,by simpa using S.before,kp S.t0,kp S.t1,kp S.t2,kp S.t3,kp S.t4,kp S.t5,kp S.t6,kp S.t7,ev_ (by omega),kp S.t9,kp S.t10,kp S.t11,kp S.t12,kp S.t13⟩
    | 9,_,ho,hsi,hT=>
      obtain ⟨e1,e2⟩:=pick_of h9 ho
      have D8:s 8=true:=list_pos hT (d:=8) (by decide)
      have q8:a.tmps[142]'(by omega)=.string p:=by have:=S.t8 D8; simpa [Act.eval,sz] using this
      refine step_val (v:=.int .i64 (p.size:Nat)) (by simp only [execOp,e1,S.t8 D8]; go_simp) (hK _ _ ?_)
      rw [e2]
      exact ⟨ofp S.off,by simpa using S.before,kp S.t0,kp S.t1,kp S.t2,kp S.t3,kp S.t4,kp S.t5,kp S.t6,kp S.t7,kp S.t8,ev_ (by omega),kp S.t10,kp S.t11,kp S.t12,kp S.t13⟩
    | 10,_,ho,hsi,hT=>
      obtain ⟨e1,e2⟩:=pick_of h10 ho
      have D7:s 7=true:=list_pos hT (d:=7) (by decide)
      have D9:s 9=true:=list_pos hT (d:=9) (by decide)
      have hyy:=hy
      refine step_val (v:=.int .i64 y) (by simp only [execOp,e1,S.t7 D7,S.t9 D9]; go_simp) (hK _ _ ?_)
      rw [e2]
      exact ⟨ofp S.off,by simpa using S.before,kp S.t0,kp S.t1,kp S.t2,kp S.t3,kp S.t4,kp S.t5,kp S.t6,kp S.t7,kp S.t8,kp S.t9,ev_ (by omega),kp S.t11,kp S.t12,kp S.t13⟩
    | 11,_,ho,hsi,hT=>
      obtain ⟨e1,e2⟩:=pick_of h11 ho
      have D0:s 0=true:=list_pos hT (d:=0) (by decide)
      refine step_val (v:=.pointer (some ⟨G,0,none⟩)) (by simp only [execOp,e1,S.t0 D0]; go_simp) (hK _ _ ?_)
      rw [e2]
      exact ⟨ofp S.off,by simpa using S.before,kp S.t0,kp S.t1,kp S.t2,kp S.t3,kp S.t4,kp S.t5,kp S.t6,kp S.t7,kp S.t8,kp S.t9,kp S.t10,ev_ (by omega),kp S.t12,kp S.t13⟩
    | 12,_,ho,hsi,hT=>
      obtain ⟨e1,e2⟩:=pick_of h12 ho
      have D11:s 11=true:=list_pos hT (d:=11) (by decide)
      refine step_val (v:=.pointer (some ⟨G,8,none⟩)) (by simp only [execOp,e1,S.t11 D11]; go_simp) (hK _ _ ?_)
      rw [e2]
      exact ⟨ofp S.off,by simpa using S.before,kp S.t0,kp S.t1,kp S.t2,kp S.t3,kp S.t4,kp S.t5,kp S.t6,kp S.t7,kp S.t8,kp S.t9,kp S.t10,kp S.t11,ev_ (by omega),kp S.t13⟩
    | 13,_,ho,hsi,hT=>
      obtain ⟨e1,e2⟩:=pick_of h13 ho
      have D12:s 12=true:=list_pos hT (d:=12) (by decide)
      have D1:s 1=true:=list_pos hT (d:=1) (by decide)
      have hc8:=hc
      refine step_val (v:=.pointer (some ⟨G,8 + c,none⟩)) (by simp only [execOp,e1,S.t12 D12,S.t1 D1]; go_simp; try omega) (hK _ _ ?_)
      rw [e2]
      exact ⟨ofp S.off,by simpa using S.before,kp S.t0,kp S.t1,kp S.t2,kp S.t3,kp S.t4,kp S.t5,kp S.t6,kp S.t7,kp S.t8,kp S.t9,kp S.t10,kp S.t11,kp S.t12,ev_ (by omega)⟩
    | _ + 14,il,_,_,_=>exact absurd il (by omega)
  intro s a w' S hall
  have a0:=hall 0 (by omega)
  have a1:=hall 1 (by omega)
  have a2:=hall 2 (by omega)
  have a3:=hall 3 (by omega)
  have a4:=hall 4 (by omega)
  have a5:=hall 5 (by omega)
  have a6:=hall 6 (by omega)
  have a7:=hall 7 (by omega)
  have a8:=hall 8 (by omega)
  have a9:=hall 9 (by omega)
  have a10:=hall 10 (by omega)
  have a11:=hall 11 (by omega)
  have a12:=hall 12 (by omega)
  have a13:=hall 13 (by omega)
  have e:=off_norm _ (by intro d hd; simp at hd; omega) S.off
  simp only [List.foldl,S.t0 a0,S.t1 a1,S.t2 a2,S.t3 a3,S.t4 a4,S.t5 a5,S.t6 a6,S.t7 a7,S.t8 a8,S.t9 a9,S.t10 a10,S.t11 a11,S.t12 a12,S.t13 a13] at e
  have BW:=S.before
  rw [e]
  exact h _ BW
end Go.Proofs.YtchfkncbemjepaaGreat
