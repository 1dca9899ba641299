/- Layer 9: packets and pieces compared with themselves. -/
import Derived.Test.YtphkaambodecdaaPkShown
import Derived.Laws.StructEq
namespace Go.Proofs.Ytphkaambodecdaa
open Go.RowKit
set_option linter.unusedVariables false
set_option maxRecDepth 100000

theorem eqFields_self {P : Program} (d : Nat) (xs : Array Value) (w : World) : ∀ fs : List Field, (∀ f ∈ fs, ∃ v, (part f.type xs f.offset).run P w = .ok v w ∧ (Op.equalIn d f.type v v).run P w = .ok true w) → (Op.eqFields d xs xs fs).run P w = .ok true w
  | [], _ => by simp [Op.eqFields]
  | f :: fs, h => by
    obtain ⟨v, h1, h2⟩ := h f (by simp)
    have ih := eqFields_self d xs w fs (fun f hf => h f (by simp [hf]))
    unfold Op.eqFields
    by_cases e : f.name = "_"
    · simp [e, ih]
    · simp [e, h1, h2, ih]
theorem part_bool (xs : Array Value) (i : Nat) (b : Bool) (h : xs[i]? = some (.bool b)) (w : World) : (part 4 xs i).run Try.prog w = .ok (.bool b) w := by
  unfold part
  go_simp
theorem part_int (xs : Array Value) (i : Nat) (b : Int) (h : xs[i]? = some (.int .i64 b)) (w : World) : (part 3 xs i).run Try.prog w = .ok (.int .i64 b) w := by
  unfold part
  go_simp
theorem part_str (xs : Array Value) (i : Nat) (b : ByteArray) (h : xs[i]? = some (.string b)) (w : World) : (part 9 xs i).run Try.prog w = .ok (.string b) w := by
  unfold part
  go_simp
theorem eqi_bool (d : Nat) (b : Bool) (w : World) : (Op.equalIn (d + 1) 4 (.bool b) (.bool b)).run Try.prog w = .ok true w := by
  rw [run_equalIn_bool' w d _ b b Try.underlying4]; simp
theorem eqi_int (d : Nat) (b : Int) (w : World) : (Op.equalIn (d + 1) 3 (.int .i64 b) (.int .i64 b)).run Try.prog w = .ok true w := by
  rw [run_equalIn_int w d _ .i64 .i64 b b Try.underlying3]; simp
theorem eqi_str (d : Nat) (b : ByteArray) (w : World) : (Op.equalIn (d + 1) 9 (.string b) (.string b)).run Try.prog w = .ok true w := by
  rw [run_equalIn_string w d _ b b Try.underlying9]; simp
theorem mem_pk : ∀ f ∈ (Try.prog.fieldsOf 23).toList, (f.type = 4 ∧ f.offset = 0) ∨ (f.type = 3 ∧ f.offset = 1) ∨ (f.type = 3 ∧ f.offset = 2) ∨ (f.type = 3 ∧ f.offset = 3) ∨ (f.type = 9 ∧ f.offset = 4) := by decide +kernel
theorem mem_pc : ∀ f ∈ (Try.prog.fieldsOf 52).toList, (f.type = 4 ∧ f.offset = 0) ∨ (f.type = 9 ∧ f.offset = 1) ∨ (f.type = 3 ∧ f.offset = 2) ∨ (f.type = 4 ∧ f.offset = 3) := by decide +kernel
theorem eqIn_pk (p : Pkt) (w : World) (d : Nat) : (Op.equalIn (d + 2) 23 (pkVal p) (pkVal p)).run Try.prog w = .ok true w := by
  unfold pkVal
  rw [run_equalIn_struct w (d + 1) _ _ _ (by kernel_rfl) (by kernel_rfl)]
  refine eqFields_self _ _ _ _ (fun f hf => ?_)
  rcases mem_pk f hf with ⟨h1, h2⟩ | ⟨h1, h2⟩ | ⟨h1, h2⟩ | ⟨h1, h2⟩ | ⟨h1, h2⟩
  · rw [h1, h2]; exact ⟨_, part_bool _ 0 p.cmd rfl w, eqi_bool d _ w⟩
  · rw [h1, h2]; exact ⟨_, part_int _ 1 p.ap rfl w, eqi_int d _ w⟩
  · rw [h1, h2]; exact ⟨_, part_int _ 2 p.fl rfl w, eqi_int d _ w⟩
  · rw [h1, h2]; exact ⟨_, part_int _ 3 p.ct rfl w, eqi_int d _ w⟩
  · rw [h1, h2]; exact ⟨_, part_str _ 4 p.da rfl w, eqi_str d _ w⟩
theorem eqIn_pc (x : Pk.Pc) (w : World) (d : Nat) : (Op.equalIn (d + 2) 52 (pcV x) (pcV x)).run Try.prog w = .ok true w := by
  unfold pcV
  rw [run_equalIn_struct w (d + 1) _ _ _ (by kernel_rfl) (by kernel_rfl)]
  refine eqFields_self _ _ _ _ (fun f hf => ?_)
  rcases mem_pc f hf with ⟨h1, h2⟩ | ⟨h1, h2⟩ | ⟨h1, h2⟩ | ⟨h1, h2⟩
  · rw [h1, h2]; exact ⟨_, part_bool _ 0 x.whole rfl w, eqi_bool d _ w⟩
  · rw [h1, h2]; exact ⟨_, part_str _ 1 (bs x.msg) rfl w, eqi_str d _ w⟩
  · rw [h1, h2]; exact ⟨_, part_int _ 2 x.missed rfl w, eqi_int d _ w⟩
  · rw [h1, h2]; exact ⟨_, part_bool _ 3 x.broken rfl w, eqi_bool d _ w⟩
theorem eql_pk (p : Pkt) (w : World) : (binOp .eql 23 (pkVal p) (pkVal p)).run Try.prog w = .ok (.bool true) w := by
  have h := eqIn_pk p w 9998
  unfold pkVal at h ⊢
  rw [run_eql_struct, h]
  rfl
theorem neq_pk (p : Pkt) (w : World) : (binOp .neq 23 (pkVal p) (pkVal p)).run Try.prog w = .ok (.bool false) w := by
  have h := eqIn_pk p w 9998
  unfold pkVal at h ⊢
  rw [run_neq_struct, h]
  rfl
theorem neq_pc (x : Pk.Pc) (w : World) : (binOp .neq 52 (pcV x) (pcV x)).run Try.prog w = .ok (.bool false) w := by
  have h := eqIn_pc x w 9998
  unfold pcV at h ⊢
  rw [run_neq_struct, h]
  rfl
end Go.Proofs.Ytphkaambodecdaa
