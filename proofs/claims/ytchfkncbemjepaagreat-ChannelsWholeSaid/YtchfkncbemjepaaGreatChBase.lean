/- ChBase -/
import Derived.Test.YtchfkncbemjepaaGreatChShP
set_option linter.unusedVariables false
set_option maxRecDepth 100000
/- Layer 11, the landed program: its small functions; whether a mux or a demux was made. -/
namespace Go.Proofs.YtchfkncbemjepaaGreat
open Go.RowKit

theorem ccraft_any (x:Int) (w:World):Calls Tryz.prog 29 #[.int .i64 x] w fun e w'=>e=.returned (.bool (decide (0<=x/\x<=255)))/\w=w':=by
  by_cases g0:(0:Int)<=x
  · have t0:decide ((0:Int)<=x)=true:=decide_eq_true g0
    by_cases g1:x<=255
    · have t1:decide (x<=255)=true:=decide_eq_true g1
      have E:=Lib.hid (show decide (0<=x/\x<=255)=true from decide_eq_true ⟨g0,g1⟩)
      clear g0 g1
      rw [E.out]
      go_enter Tryz.func29,Tryz.ntmps29
      go_wp2_with fail
      go_ret
      exact ⟨rfl,rfl⟩
    have t1:decide (x<=255)=false:=decide_eq_false g1
    have E:=Lib.hid (show decide (0<=x/\x<=255)=false from decide_eq_false (fun h=>g1 h.2))
    clear g0 g1
    rw [E.out]
    go_enter Tryz.func29,Tryz.ntmps29
    go_wp2_with fail
    go_ret
    exact ⟨rfl,rfl⟩
  have t0:decide ((0:Int)<=x)=false:=decide_eq_false g0
  have E:=Lib.hid (show decide (0<=x/\x<=255)=false from decide_eq_false (fun h=>g0 h.1))
  clear g0
  rw [E.out]
  go_enter Tryz.func29,Tryz.ntmps29
  go_wp2_with fail
  go_ret
  exact ⟨rfl,rfl⟩
theorem csize_any (x:Int) (w:World):Calls Tryz.prog 30 #[.int .i64 x] w fun e w'=>e=.returned (.bool (decide (32<=x/\x<=200)))/\w=w':=by
  by_cases g0:(32:Int)<=x
  · have t0:decide ((32:Int)<=x)=true:=decide_eq_true g0
    by_cases g1:x<=200
    · have t1:decide (x<=200)=true:=decide_eq_true g1
      have E:=Lib.hid (show decide (32<=x/\x<=200)=true from decide_eq_true ⟨g0,g1⟩)
      clear g0 g1
      rw [E.out]
      go_enter Tryz.func30,Tryz.ntmps30
      go_wp2_with fail
      go_ret
      exact ⟨rfl,rfl⟩
    have t1:decide (x<=200)=false:=decide_eq_false g1
    have E:=Lib.hid (show decide (32<=x/\x<=200)=false from decide_eq_false (fun h=>g1 h.2))
    clear g0 g1
    rw [E.out]
    go_enter Tryz.func30,Tryz.ntmps30
    go_wp2_with fail
    go_ret
    exact ⟨rfl,rfl⟩
  have t0:decide ((32:Int)<=x)=false:=decide_eq_false g0
  have E:=Lib.hid (show decide (32<=x/\x<=200)=false from decide_eq_false (fun h=>g0 h.1))
  clear g0
  rw [E.out]
  go_enter Tryz.func30,Tryz.ntmps30
  go_wp2_with fail
  go_ret
  exact ⟨rfl,rfl⟩
theorem cchan_any (x:Int) (w:World):Calls Tryz.prog 36 #[.int .i64 x] w fun e w'=>e=.returned (.bool (decide (0<=x/\x < 8)))/\w=w':=by
  by_cases g0:(0:Int)<=x
  · have t0:decide ((0:Int)<=x)=true:=decide_eq_true g0
    by_cases g1:x < 8
    · have t1:decide (x < 8)=true:=decide_eq_true g1
      have E:=Lib.hid (show decide (0<=x/\x < 8)=true from decide_eq_true ⟨g0,g1⟩)
      clear g0 g1
      rw [E.out]
      go_enter Tryz.func36,Tryz.ntmps36
      go_wp2_with fail
      go_ret
      exact ⟨rfl,rfl⟩
    have t1:decide (x < 8)=false:=decide_eq_false g1
    have E:=Lib.hid (show decide (0<=x/\x < 8)=false from decide_eq_false (fun h=>g1 h.2))
    clear g0 g1
    rw [E.out]
    go_enter Tryz.func36,Tryz.ntmps36
    go_wp2_with fail
    go_ret
    exact ⟨rfl,rfl⟩
  have t0:decide ((0:Int)<=x)=false:=decide_eq_false g0
  have E:=Lib.hid (show decide (0<=x/\x < 8)=false from decide_eq_false (fun h=>g0 h.1))
  clear g0
  rw [E.out]
  go_enter Tryz.func36,Tryz.ntmps36
  go_wp2_with fail
  go_ret
  exact ⟨rfl,rfl⟩
theorem cprio_any (x:Int) (w:World):Calls Tryz.prog 31 #[.int .i64 x] w fun e w'=>e=.returned (.bool (decide (0<=x/\x<=7)))/\w=w':=by
  by_cases g0:(0:Int)<=x
  · have t0:decide ((0:Int)<=x)=true:=decide_eq_true g0
    by_cases g1:x<=7
    · have t1:decide (x<=7)=true:=decide_eq_true g1
      have E:=Lib.hid (show decide (0<=x/\x<=7)=true from decide_eq_true ⟨g0,g1⟩)
      clear g0 g1
      rw [E.out]
      go_enter Tryz.func31,Tryz.ntmps31
      go_wp2_with fail
      go_ret
      exact ⟨rfl,rfl⟩
    have t1:decide (x<=7)=false:=decide_eq_false g1
    have E:=Lib.hid (show decide (0<=x/\x<=7)=false from decide_eq_false (fun h=>g1 h.2))
    clear g0 g1
    rw [E.out]
    go_enter Tryz.func31,Tryz.ntmps31
    go_wp2_with fail
    go_ret
    exact ⟨rfl,rfl⟩
  have t0:decide ((0:Int)<=x)=false:=decide_eq_false g0
  have E:=Lib.hid (show decide (0<=x/\x<=7)=false from decide_eq_false (fun h=>g0 h.1))
  clear g0
  rw [E.out]
  go_enter Tryz.func31,Tryz.ntmps31
  go_wp2_with fail
  go_ret
  exact ⟨rfl,rfl⟩
theorem cshare_any (x:Int) (w:World):Calls Tryz.prog 32 #[.int .i64 x] w fun e w'=>e=.returned (.bool (decide (1<=x/\x<=100)))/\w=w':=by
  by_cases g0:(1:Int)<=x
  · have t0:decide ((1:Int)<=x)=true:=decide_eq_true g0
    by_cases g1:x<=100
    · have t1:decide (x<=100)=true:=decide_eq_true g1
      have E:=Lib.hid (show decide (1<=x/\x<=100)=true from decide_eq_true ⟨g0,g1⟩)
      clear g0 g1
      rw [E.out]
      go_enter Tryz.func32,Tryz.ntmps32
      go_wp2_with fail
      go_ret
      exact ⟨rfl,rfl⟩
    have t1:decide (x<=100)=false:=decide_eq_false g1
    have E:=Lib.hid (show decide (1<=x/\x<=100)=false from decide_eq_false (fun h=>g1 h.2))
    clear g0 g1
    rw [E.out]
    go_enter Tryz.func32,Tryz.ntmps32
    go_wp2_with fail
    go_ret
    exact ⟨rfl,rfl⟩
  have t0:decide ((1:Int)<=x)=false:=decide_eq_false g0
  have E:=Lib.hid (show decide (1<=x/\x<=100)=false from decide_eq_false (fun h=>g0 h.1))
  clear g0
  rw [E.out]
  go_enter Tryz.func32,Tryz.ntmps32
  go_wp2_with fail
  go_ret
  exact ⟨rfl,rfl⟩
theorem eqlM_self (O:Addr) (w:World):(binOp .eql 27 (.pointer (some O)) (.pointer (some O))).run Tryz.prog w=.ok (.bool true) w:=by
  obtain ⟨j,hj⟩:=Option.isSome_iff_exists.1 (show (Tryz.prog.info? 61).isSome=true by kernel_rfl)
  exact run_eql_ptr_same w O Tryz.underlying27 hj
theorem eqlM_not (O:Addr) (w:World):(binOp .eql 27 (.pointer (some O)) (.pointer none)).run Tryz.prog w=.ok (.bool false) w:=by
  have h:∀ d:Nat,(Op.equalIn (d + 1) 27 (.pointer (some O)) (.pointer none)).run Tryz.prog w=.ok false w:=fun d=>by
    simp [Op.equalIn,run_underlying Tryz.underlying27]
  simp only [binOp]
  simp [Op.equal,Op.maxDepth,h 9999]
theorem neqM_not (O:Addr) (w:World):(binOp .neq 27 (.pointer (some O)) (.pointer none)).run Tryz.prog w=.ok (.bool true) w:=by
  have h:∀ d:Nat,(Op.equalIn (d + 1) 27 (.pointer (some O)) (.pointer none)).run Tryz.prog w=.ok false w:=fun d=>by
    simp [Op.equalIn,run_underlying Tryz.underlying27]
  simp only [binOp]
  simp [Op.equal,Op.maxDepth,h 9999]
theorem mmade_any {w:World} {X:Nat} (c:w.cell? ⟨X,0,none⟩=some (.pointer (some ⟨X,0,none⟩))):Calls Tryz.prog 35 #[.pointer (some ⟨X,0,none⟩)] w fun e w'=>e=.returned (.bool true)/\w=w':=by
  have q1:=eqlM_self ⟨X,0,none⟩ w
  have q2:=neqM_not ⟨X,0,none⟩ w
  go_enter Tryz.func35,Tryz.ntmps35
  go_wp2_with fail
  go_ret
  exact ⟨rfl,rfl⟩
theorem eqlD_self (O:Addr) (w:World):(binOp .eql 44 (.pointer (some O)) (.pointer (some O))).run Tryz.prog w=.ok (.bool true) w:=by
  obtain ⟨j,hj⟩:=Option.isSome_iff_exists.1 (show (Tryz.prog.info? 68).isSome=true by kernel_rfl)
  exact run_eql_ptr_same w O Tryz.underlying44 hj
theorem eqlD_not (O:Addr) (w:World):(binOp .eql 44 (.pointer (some O)) (.pointer none)).run Tryz.prog w=.ok (.bool false) w:=by
  have h:∀ d:Nat,(Op.equalIn (d + 1) 44 (.pointer (some O)) (.pointer none)).run Tryz.prog w=.ok false w:=fun d=>by
    simp [Op.equalIn,run_underlying Tryz.underlying44]
  simp only [binOp]
  simp [Op.equal,Op.maxDepth,h 9999]
theorem neqD_not (O:Addr) (w:World):(binOp .neq 44 (.pointer (some O)) (.pointer none)).run Tryz.prog w=.ok (.bool true) w:=by
  have h:∀ d:Nat,(Op.equalIn (d + 1) 44 (.pointer (some O)) (.pointer none)).run Tryz.prog w=.ok false w:=fun d=>by
    simp [Op.equalIn,run_underlying Tryz.underlying44]
  simp only [binOp]
  simp [Op.equal,Op.maxDepth,h 9999]
theorem dmade_any {w:World} {X:Nat} (c:w.cell? ⟨X,0,none⟩=some (.pointer (some ⟨X,0,none⟩))):Calls Tryz.prog 50 #[.pointer (some ⟨X,0,none⟩)] w fun e w'=>e=.returned (.bool true)/\w=w':=by
  have q1:=eqlD_self ⟨X,0,none⟩ w
  have q2:=neqD_not ⟨X,0,none⟩ w
  go_enter Tryz.func50,Tryz.ntmps50
  go_wp2_with fail
  go_ret
  exact ⟨rfl,rfl⟩
theorem isNaN_any (x:Int) (w:World):Calls Tryz.prog 101 #[.int .i64 x] w fun e w'=>e=.returned (.bool false)/\w=w':=by
  have x2:((x:Int) != (x:Int))=false:=by simp
  go_enter Tryz.func101,Tryz.ntmps101
  go_wp2_with fail
  go_ret
  exact ⟨rfl,rfl⟩
def cmpI (x y:Int):Int:=if x < y then -1 else if y < x then 1 else 0
theorem compareI_any (x y:Int) (w:World):Calls Tryz.prog 65 #[.int .i64 x,.int .i64 y] w fun e w'=>e=.returned (.int .i64 (cmpI x y))/\w=w':=by
  have N:=Lib.hid (fun x w=>isNaN_any x w)
  by_cases h1:x < y
  · have V:=Lib.hid (show cmpI x y=-1 from if_pos h1)
    have d1:decide (x < y)=true:=by simpa using h1
    clear h1
    go_enter Tryz.func65,Tryz.ntmps65
    go_wp2_with fail
    (with_reducible refine (N.out _ _).mono ?_)
    rintro e w1 ⟨rfl,rfl⟩
    go_wp2_with fail
    (with_reducible refine (N.out _ _).mono ?_)
    rintro e w1 ⟨rfl,rfl⟩
    go_wp2_with fail
    go_ret
    exact ⟨by rw [V.out]; rfl,rfl⟩
  have d1:decide (x < y)=false:=by simpa using h1
  by_cases h2:y < x
  · have V:=Lib.hid (show cmpI x y=1 from (if_neg h1).trans (if_pos h2))
    have d2:decide (y < x)=true:=by simpa using h2
    clear h1 h2
    go_enter Tryz.func65,Tryz.ntmps65
    go_wp2_with fail
    (with_reducible refine (N.out _ _).mono ?_)
    rintro e w1 ⟨rfl,rfl⟩
    go_wp2_with fail
    (with_reducible refine (N.out _ _).mono ?_)
    rintro e w1 ⟨rfl,rfl⟩
    go_wp2_with fail
    go_ret
    exact ⟨by rw [V.out]; rfl,rfl⟩
  have V:=Lib.hid (show cmpI x y=0 from (if_neg h1).trans (if_neg h2))
  have d2:decide (y < x)=false:=by simpa using h2
  clear h1 h2
  go_enter Tryz.func65,Tryz.ntmps65
  go_wp2_with fail
  (with_reducible refine (N.out _ _).mono ?_)
  rintro e w1 ⟨rfl,rfl⟩
  go_wp2_with fail
  (with_reducible refine (N.out _ _).mono ?_)
  rintro e w1 ⟨rfl,rfl⟩
  go_wp2_with fail
  go_ret
  exact ⟨by rw [V.out]; rfl,rfl⟩
end Go.Proofs.YtchfkncbemjepaaGreat
