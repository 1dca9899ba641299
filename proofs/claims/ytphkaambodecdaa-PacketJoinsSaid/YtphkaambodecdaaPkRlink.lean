/- The reference's joiner and the program's: what they know is the same. -/
import Derived.Test.YtphkaambodecdaaPkRfeed
namespace Go.Proofs.Ytphkaambodecdaa
open Go.RowKit
set_option linter.unusedVariables false
set_option maxRecDepth 100000

def rkAbs (q : Rk) : Pk.St := ⟨q.nx, if q.op = true then some q.tx.data.toList else none⟩
theorem rk_opn (q : Rk) : Pk.opn (some (rkAbs q)) = if q.op = true then some q.tx.data.toList else none := rfl
theorem add_list (a b : ByteArray) : (a ++ b).data.toList = a.data.toList ++ b.data.toList := by
  rw [ByteArray.data_append, Array.toList_append]
theorem rk_feed {q : Rk} {fr : Bool} {p : Pkt} {s : Option Pk.St} (ho : Pk.Ok p) (hq : RkOk q) (h : (fr = false ∧ s = some (rkAbs q)) ∨ (fr = true ∧ s = none ∧ q = ⟨p.ap, 0, false, ⟨#[]⟩⟩)) :
    Pk.feed s p = (rkAbs (rkStep q fr p).1, (rkStep q fr p).2) ∧ (rkStep q fr p).1.ap = q.ap ∧ RkOk (rkStep q fr p).1 := by
  have hm : Pk.mis s p = rkMi q fr p := by
    rcases h with ⟨rfl, rfl⟩ | ⟨rfl, rfl, rfl⟩
    · rfl
    · rfl
  have hop : Pk.opn s = if q.op = true then some q.tx.data.toList else none := by
    rcases h with ⟨rfl, rfl⟩ | ⟨rfl, rfl, rfl⟩
    · rfl
    · rfl
  have hbr : Pk.brk s p = rkBr q fr p := by
    unfold Pk.brk rkBr
    rw [hm, hop]
    cases q.op <;> rfl
  have h1 : Pk.opn1 s p = if rkOp q fr p = true then some q.tx.data.toList else none := by
    unfold Pk.opn1 rkOp
    rw [hbr, hop]
    by_cases g : rkBr q fr p = true
    · rw [if_pos g, if_pos g]; rfl
    · rw [if_neg g, if_neg g]
  have hnx : 0 ≤ (p.ct + 1) % 16384 ∧ (p.ct + 1) % 16384 ≤ 16383 := by omega
  have hopt : rkOp q fr p = true → q.tx.size ≤ 16384 := fun g => hq.2 (by
    unfold rkOp at g
    split at g
    · cases g
    · exact g)
  have hda : p.da.size ≤ 1024 := ho.2.2.2.2
  unfold Pk.feed rkStep
  rw [h1, hm, hbr]
  by_cases f3 : p.fl = 3
  · rw [if_pos f3, if_pos f3]
    exact ⟨rfl, rfl, hnx, hopt⟩
  rw [if_neg f3, if_neg f3]
  by_cases f1 : p.fl = 1
  · rw [if_pos f1, if_pos f1]
    exact ⟨rfl, rfl, hnx, fun _ => by show p.da.size ≤ 16384; omega⟩
  rw [if_neg f1, if_neg f1]
  cases ho1 : rkOp q fr p with
  | false =>
    rw [if_neg (by simp), if_pos rfl]
    exact ⟨rfl, rfl, hnx, fun e => by cases e⟩
  | true =>
    rw [if_pos rfl, if_neg (by simp)]
    simp only
    have sz : (q.tx.data.toList ++ p.da.data.toList).length = (q.tx ++ p.da).size := by rw [← add_list, ls]
    rw [sz]
    by_cases l : 16384 < (q.tx ++ p.da).size
    · rw [if_pos l, if_pos l]
      exact ⟨rfl, rfl, hnx, fun e => by cases e⟩
    · rw [if_neg l, if_neg l]
      by_cases f2 : p.fl = 2
      · rw [if_pos f2, if_pos f2]
        exact ⟨by rw [← add_list]; rfl, rfl, hnx, fun e => by cases e⟩
      · rw [if_neg f2, if_neg f2]
        exact ⟨by rw [← add_list]; rfl, rfl, hnx, fun _ => by show (q.tx ++ p.da).size ≤ 16384; omega⟩
/-- Both know the same. -/
structure Lk (f : Nat → Rk) (n : Nat) (F : Int → Option Pk.St) : Prop where
  one : ∀ i j, i < n → j < n → (f i).ap = (f j).ap → i = j
  rng : ∀ i, i < n → 0 ≤ (f i).ap ∧ (f i).ap ≤ 2046
  ok : ∀ i, i < n → RkOk (f i)
  fwd : ∀ i, i < n → F (f i).ap = some (rkAbs (f i))
  bwd : ∀ a, (F a).isSome = true → ∃ i, i < n ∧ (f i).ap = a
theorem Lk.zero (f : Nat → Rk) : Lk f 0 (fun _ => none) := ⟨fun _ _ h => by omega, fun _ h => by omega, fun _ h => by omega, fun _ h => by omega, fun a h => by cases h⟩
theorem Lk.step {f : Nat → Rk} {n n' i : Nat} {F : Int → Option Pk.St} {p : Pkt} {fr : Bool} {q : Rk} (h : Lk f n F) (ho : Pk.Ok p) (hi : p.ap ≠ 2047)
    (hr : (fr = false ∧ n' = n ∧ i < n ∧ q = f i ∧ q.ap = p.ap) ∨ (fr = true ∧ i = n ∧ n' = n + 1 ∧ q = ⟨p.ap, 0, false, ⟨#[]⟩⟩ ∧ ∀ k, k < n → (f k).ap ≠ p.ap)) :
    Lk (updN f i (rkStep q fr p).1) n' (upd F p.ap (some (Pk.feed (F p.ap) p).1)) ∧ (rkStep q fr p).2 = (Pk.feed (F p.ap) p).2 := by
  have hap := ho.1
  have key : Pk.feed (F p.ap) p = (rkAbs (rkStep q fr p).1, (rkStep q fr p).2) ∧ (rkStep q fr p).1.ap = q.ap ∧ RkOk (rkStep q fr p).1 := by
    rcases hr with ⟨rfl, rfl, hin, rfl, ha⟩ | ⟨rfl, rfl, rfl, rfl, hne⟩
    · exact rk_feed ho (h.ok i hin) (.inl ⟨rfl, by rw [← ha]; exact h.fwd i hin⟩)
    · refine rk_feed ho ⟨by simp, by simp⟩ (.inr ⟨rfl, ?_, rfl⟩)
      cases hF : F p.ap with
      | none => rfl
      | some st =>
        obtain ⟨k, hk, hk2⟩ := h.bwd p.ap (by rw [hF]; rfl)
        exact absurd hk2 (hne k hk)
  obtain ⟨k1, k2, k3⟩ := key
  obtain ⟨x, hx⟩ : ∃ x, (rkStep q fr p).1 = x := ⟨_, rfl⟩
  rw [hx] at k1 k2 k3 ⊢
  have qap : q.ap = p.ap := by
    rcases hr with ⟨_, _, _, _, ha⟩ | ⟨_, _, _, rfl, _⟩
    · exact ha
    · rfl
  have xap : x.ap = p.ap := k2.trans qap
  refine ⟨?_, by rw [k1]⟩
  rw [k1]
  have hn : ∀ k, k < n' → k ≠ i → k < n ∧ (f k).ap ≠ p.ap := fun k hk hki => by
    rcases hr with ⟨rfl, rfl, hin, rfl, ha⟩ | ⟨rfl, rfl, rfl, rfl, hne⟩
    · exact ⟨hk, fun e => hki (h.one k i hk hin (e.trans ha.symm))⟩
    · exact ⟨by omega, hne k (by omega)⟩
  have hi' : i < n' := by
    rcases hr with ⟨_, rfl, hin, _, _⟩ | ⟨_, rfl, rfl, _, _⟩
    · exact hin
    · omega
  refine ⟨fun a b ha hb e => ?_, fun a ha => ?_, fun a ha => ?_, fun a ha => ?_, fun a ha => ?_⟩
  · by_cases ea : a = i
    · by_cases eb : b = i
      · rw [ea, eb]
      · rw [ea, updN_same, updN_ne _ _ eb, xap] at e
        exact absurd e.symm (hn b hb eb).2
    · by_cases eb : b = i
      · rw [eb, updN_same, updN_ne _ _ ea, xap] at e
        exact absurd e (hn a ha ea).2
      · rw [updN_ne _ _ ea, updN_ne _ _ eb] at e
        exact h.one a b (hn a ha ea).1 (hn b hb eb).1 e
  · by_cases ea : a = i
    · rw [ea, updN_same, xap]; omega
    · rw [updN_ne _ _ ea]; exact h.rng a (hn a ha ea).1
  · by_cases ea : a = i
    · rw [ea, updN_same]; exact k3
    · rw [updN_ne _ _ ea]; exact h.ok a (hn a ha ea).1
  · by_cases ea : a = i
    · rw [ea, updN_same, xap, upd_same]
    · rw [updN_ne _ _ ea, upd_ne _ _ (hn a ha ea).2]; exact h.fwd a (hn a ha ea).1
  · by_cases e : a = p.ap
    · exact ⟨i, hi', by rw [updN_same, xap, e]⟩
    · rw [upd_ne _ _ e] at ha
      obtain ⟨k, hk, hk2⟩ := h.bwd a ha
      have ki : k ≠ i := fun q => by
        rcases hr with ⟨rfl, rfl, hin, rfl, hb⟩ | ⟨rfl, rfl, rfl, rfl, hne⟩
        · rw [q, hb] at hk2; exact e hk2.symm
        · omega
      exact ⟨k, by rcases hr with ⟨_, rfl, _⟩ | ⟨_, _, rfl, _⟩ <;> omega, by rw [updN_ne _ _ ki]; exact hk2⟩
/-- How many are open. -/
def rkOpens (f : Nat → Rk) : Nat → Nat
  | 0 => 0
  | n + 1 => rkOpens f n + (if (f n).op = true then 1 else 0)
theorem rkOpens_le (f : Nat → Rk) : ∀ n, rkOpens f n ≤ n
  | 0 => Nat.le_refl _
  | n + 1 => by unfold rkOpens; have := rkOpens_le f n; split <;> omega
def gk (f : Nat → Rk) (k : Nat) (a : Nat) : Bool := (List.range k).any fun i => decide ((f i).ap = (a : Int)) && (f i).op
theorem gk_succ (f : Nat → Rk) (k a : Nat) : gk f (k + 1) a = (gk f k a || (decide ((f k).ap = (a : Int)) && (f k).op)) := by
  unfold gk
  rw [List.range_succ, List.any_append]
  simp
theorem gk_no {f : Nat → Rk} {k a : Nat} (h : ∀ i, i < k → (f i).ap = (a : Int) → (f i).op = false) : gk f k a = false := by
  unfold gk
  rw [List.any_eq_false]
  intro i hi
  by_cases e : (f i).ap = (a : Int)
  · rw [h i (by simpa using hi) e]; simp
  · rw [decide_eq_false e]; simp
theorem rkOpens_is {f : Nat → Rk} {n : Nat} {F : Int → Option Pk.St} (h : Lk f n F) : rkOpens f n = opens F := by
  have cnt : ∀ k, k ≤ n → ((List.range 2047).filter (gk f k)).length = rkOpens f k := by
    intro k
    induction k with
    | zero => intro _; show ((List.range 2047).filter (fun a => gk f 0 a)).length = 0; simp [gk]
    | succ k ih =>
      intro hk
      have ih := ih (by omega)
      have r := h.rng k (by omega)
      unfold rkOpens
      cases ho : (f k).op with
      | false =>
        rw [if_neg (by simp), ← ih]
        have : gk f (k + 1) = gk f k := by funext a; rw [gk_succ, ho]; simp
        rw [this]
        rfl
      | true =>
        rw [if_pos rfl, ← ih]
        have hx : (((f k).ap.toNat : Nat) : Int) = (f k).ap := by omega
        refine filter_one_more (x := (f k).ap.toNat) 2047 (by omega) (gk_no fun i hi e => ?_) ?_ (fun a ha => ?_)
        · rw [hx] at e
          have := h.one i k (by omega) (by omega) e
          omega
        · rw [gk_succ, ho, hx]; simp
        · rw [gk_succ]
          have : ¬ (f k).ap = (a : Int) := fun e => ha (by omega)
          rw [decide_eq_false this]
          simp
  rw [← cnt n (Nat.le_refl _)]
  unfold opens
  congr 1
  congr 1
  funext a
  cases hF : F (a : Int) with
  | none =>
    rw [show (Pk.opn (none : Option Pk.St)).isSome = false from rfl]
    refine gk_no fun i hi e => ?_
    have := h.fwd i hi
    rw [e, hF] at this
    cases this
  | some st =>
    obtain ⟨i, hi, ha⟩ := h.bwd (a : Int) (by rw [hF]; rfl)
    have e := h.fwd i hi
    rw [ha, hF] at e
    cases e
    rw [rk_opn]
    cases ho : (f i).op with
    | false =>
      rw [if_neg (by simp)]
      refine gk_no fun k hk e => ?_
      rw [h.one k i hk hi (e.trans ha.symm), ho]
    | true =>
      rw [if_pos rfl]
      show gk f n a = true
      unfold gk
      rw [List.any_eq_true]
      exact ⟨i, by simpa using hi, by rw [decide_eq_true ha, ho]; rfl⟩
set_option maxHeartbeats 4000000 in
theorem ropen_any {w : World} {n0 r n : Nat} {sv : Value} {f : Nat → Rk} (h : RJ w n0 r sv f n) (hn : n ≤ 10000) :
    Calls Try.prog 28 #[.pointer (some ⟨r, 0, none⟩)] w fun e w' => e = .returned (.int .i64 (rkOpens f n : Nat)) ∧ w = w' := by
  obtain ⟨sa, cap, rfl⟩ := own_is h.row
  have HJ := Lib.hid h
  have cR : w.cell? ⟨r, 0, none⟩ = some (.slice sa n cap) := h.cr.cell (j := 0) (by omega)
  clear h
  go_enter Try.func28, Try.ntmps28
  go_wp2_with fail
  go_loopw [3, 4] (fun x3 x4 wr => ∃ k : Nat, k ≤ n ∧ x4 = .int .i64 (k : Nat) ∧ x3 = .int .i64 (rkOpens f k : Nat) ∧ w = wr) (fun _ x4 _ => n - (intOf x4).toNat)
  case atStart => exact ⟨0, Nat.zero_le _, rfl, rfl, rfl⟩
  case round =>
    obtain ⟨k, hk, rfl, rfl, rfl⟩ := hrel
    by_cases hlt : k < n
    · obtain ⟨G, rfl, _, _⟩ := row_some HJ.out.row (by omega)
      have ck : w.cell? ⟨G, k * 4 + 2, none⟩ = some (.bool (f k).op) := rk_cell HJ.out.row hlt 2 (by omega)
      have le := rkOpens_le f k
      obtain ⟨z, hz⟩ : ∃ z, rkOpens f k = z := ⟨_, rfl⟩
      rw [hz] at le ⊢
      have ES := Lib.hid (show rkOpens f (k + 1) = z + (if (f k).op = true then 1 else 0) by rw [← hz]; rfl)
      have k0 : (0 : Int) ≤ (k : Int) := by omega
      have k1 : (k : Int) < (n : Int) := by omega
      have HL := Lib.hid hlt
      obtain ⟨b, hb⟩ : ∃ b, (f k).op = b := ⟨_, rfl⟩
      rw [hb] at ck ES
      clear hz hb hlt
      cases b with
      | true =>
        go_wp2_with fail
        go_roundw
        case rel => exact ⟨k + 1, HL.out, by go_num, by rw [ES.out, if_pos rfl]; go_num, trivial⟩
        case measure => simp [intOf]; have := HL.out; omega
      | false =>
        go_wp2_with fail
        go_roundw
        case rel => exact ⟨k + 1, HL.out, by go_num, by rw [ES.out, if_neg (by simp)]; rfl, trivial⟩
        case measure => simp [intOf]; have := HL.out; omega
    · obtain rfl : n = k := by omega
      go_wp2_with fail
      go_ret
      exact ⟨rfl, rfl⟩
end Go.Proofs.Ytphkaambodecdaa
