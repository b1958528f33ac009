/- The contracts of the small functions about steps. -/
import Derived.Test.YteaiidcconggcaaDoorBundleQ5
import Derived.Test.YteaiidcconggcaaDoorMChange
import Derived.Test.YteaiidcconggcaaDoorMRes
namespace Go.Proofs.YteaiidcconggcaaDoor
open Go.RowKit
set_option linter.unusedVariables false
set_option maxRecDepth 100000

def stV (p : Stp) : Value := .agg #[.int .i64 p.1.op, .string (S p.1.a), .string (S p.1.b), .int .i64 p.1.n, .int .i64 p.2.code, .string (S p.2.text), .int .i64 p.2.n]
theorem beq_dec (a b : Int) : (a == b) = decide (a = b) := rfl
theorem bne_dec (a b : Int) : (a != b) = !decide (a = b) := rfl
theorem refused_any {w : World} (p : Stp) : Calls Tryd.prog 49 #[stV p] w fun e w' => e = .returned (.bool (refM p)) ∧ Below w.heap.size w w' := by
  obtain ⟨⟨op, a, b, n⟩, ⟨c, t, m⟩⟩ := p
  unfold stV refM
  have HB := hide (fun o : Obj => under_box (w := w) o)
  dsimp only
  go_enter Tryd.func49, Tryd.ntmps49
  go_wp2_with fail
  go_ret
  exact ⟨rfl, unhide HB _⟩
theorem textBy_any {w : World} (p : Stp) : Calls Tryd.prog 48 #[stV p] w fun e w' => e = .returned (.string (S (textM p))) ∧ Below w.heap.size w w' := by
  obtain ⟨⟨op, a, b, n⟩, ⟨c, t, m⟩⟩ := p
  unfold stV textM
  have HB := hide (fun o : Obj => under_box (w := w) o)
  dsimp only
  by_cases h : op = 2
  · subst h
    rw [if_pos rfl]
    go_enter Tryd.func48, Tryd.ntmps48
    go_wp2_with fail
    go_ret
    exact ⟨rfl, unhide HB _⟩
  · rw [if_neg h]
    have e : (op == 2) = false := by rw [beq_eq_false_iff_ne]; exact h
    go_enter Tryd.func48, Tryd.ntmps48
    go_wp2_with fail
    go_ret
    exact ⟨rfl, unhide HB _⟩
theorem wasThere_any {w : World} (p : Stp) : Calls Tryd.prog 51 #[stV p] w fun e w' => e = .returned (.bool (wasM p)) ∧ Below w.heap.size w w' := by
  have HR := hide (fun wz : World => refused_any (w := wz) p)
  unfold wasM
  generalize refM p = R at *
  obtain ⟨⟨op, a, b, n⟩, ⟨c, t, m⟩⟩ := p
  unfold stV at *
  have HB := hide (fun o : Obj => under_box (w := w) o)
  dsimp only at *
  have HF := hide (fun (wz w' : World) (h1 : Below w.heap.size w wz) (h2 : Below wz.heap.size wz w') => h1.trans (h2.mono h1.size))
  by_cases h : op = 8
  · subst h
    rw [if_pos (Or.inl rfl)]
    go_enter Tryd.func51, Tryd.ntmps51
    go_wp2_with fail
    refine (unhide HR _).mono ?_
    rintro e w1 ⟨rfl, hb⟩
    have HE := hide (unhide HF _ _ (unhide HB _) hb)
    clear hb
    go_wp2_with fail
    go_ret
    exact ⟨rfl, unhide HE⟩
  by_cases h2 : op = 11
  · subst h2
    rw [if_pos (Or.inr rfl)]
    go_enter Tryd.func51, Tryd.ntmps51
    go_wp2_with fail
    refine (unhide HR _).mono ?_
    rintro e w1 ⟨rfl, hb⟩
    have HE := hide (unhide HF _ _ (unhide HB _) hb)
    clear hb
    go_wp2_with fail
    go_ret
    exact ⟨rfl, unhide HE⟩
  · rw [if_neg (by omega)]
    have e1 : (op == 8) = false := by rw [beq_eq_false_iff_ne]; exact h
    have e2 : (op == 11) = false := by rw [beq_eq_false_iff_ne]; exact h2
    go_enter Tryd.func51, Tryd.ntmps51
    go_wp2_with fail
    refine (unhide HR _).mono ?_
    rintro e w1 ⟨rfl, hb⟩
    have HE := hide (unhide HF _ _ (unhide HB _) hb)
    clear hb
    go_wp2_with fail
    go_ret
    exact ⟨rfl, unhide HE⟩
theorem spends_any {w : World} (x y : Stp) : Calls Tryd.prog 50 #[stV x, stV y] w fun e w' => e = .returned (.bool (spendM x y)) ∧ Below w.heap.size w w' := by
  have HR := hide (fun wz : World => refused_any (w := wz) y)
  unfold spendM
  generalize refM y = R at *
  obtain ⟨⟨op, a, b, n⟩, ⟨c, t, m⟩⟩ := x
  obtain ⟨⟨op', a', b', n'⟩, ⟨c', t', m'⟩⟩ := y
  unfold stV at *
  have HB := hide (fun o o' : Obj => under_two w o o')
  dsimp only at *
  have HF := hide (fun (wz w' : World) (h1 : Below w.heap.size w wz) (h2 : Below wz.heap.size wz w') => h1.trans (h2.mono h1.size))
  by_cases h : op' = 7
  · subst h
    rw [if_pos rfl]
    go_enter Tryd.func50, Tryd.ntmps50
    go_wp2_with fail
    go_ret
    exact ⟨rfl, unhide HB _ _⟩
  by_cases h2 : op' = 6
  · subst h2
    rw [if_neg (by decide), if_pos rfl]
    go_enter Tryd.func50, Tryd.ntmps50
    go_wp2_with fail
    refine (unhide HR _).mono ?_
    rintro e w1 ⟨rfl, hb⟩
    have HE := hide (unhide HF _ _ (unhide HB _ _) hb)
    clear hb
    go_wp2_with fail
    go_ret
    exact ⟨rfl, unhide HE⟩
  · rw [if_neg h, if_neg h2]
    have e1 : (op' == 7) = false := by rw [beq_eq_false_iff_ne]; exact h
    have e2 : (op' == 6) = false := by rw [beq_eq_false_iff_ne]; exact h2
    go_enter Tryd.func50, Tryd.ntmps50
    go_wp2_with fail
    go_ret
    exact ⟨rfl, unhide HB _ _⟩
end Go.Proofs.YteaiidcconggcaaDoor
