
/-
  The report of a channel, copied; windows and the reports of ends held against each other (written by gens/kme.py).
-/
import Derived.Test.YtggclncbcdjnjaaKmD
namespace Go.Proofs.Ytggclncbcdjnjaa
open Go Go.RowKit

/-- The report of a channel as data. -/
structure CD where
  fa : Int
  an : List Int
  cl : ED
  sv : ED
  ts : List Int
  tc : List Int
/-- Where it lies. -/
structure CA where
  a1 : Option Addr
  c1 : Nat
  g1 : Nat
  cl : EA
  sv : EA
  a50 : Option Addr
  c50 : Nat
  g50 : Nat
  a51 : Option Addr
  c51 : Nat
  g51 : Nat
structure HasC (b : Nat) (W : World) (p : CA) (d : CD) : Prop where
  an : Rd W p.g1 p.a1 .i64 d.an
  ban : b ≤ p.g1
  cl : HasE b W p.cl d.cl
  sv : HasE b W p.sv d.sv
  ts : Rd W p.g50 p.a50 .u8 d.ts
  bts : b ≤ p.g50
  tc : Rd W p.g51 p.a51 .u8 d.tc
  btc : b ≤ p.g51
theorem HasC.up {b : Nat} {W W' : World} {p : CA} {d : CD} (h : HasC b W p d) (n : Below W.heap.size W W') : HasC b W' p d := ⟨h.an.up n, h.ban, h.cl.up n, h.sv.up n, h.ts.up n, h.bts, h.tc.up n, h.btc⟩
structure OkC (d : CD) : Prop where
  an : d.an.length ≤ 1048576
  cl : OkE d.cl
  sv : OkE d.sv
  ts : d.ts.length ≤ 1048576
  tc : d.tc.length ≤ 1048576
theorem setL_eq : ∀ (vs cs : List Value) (o : Nat), o + vs.length ≤ cs.length → setL cs o vs = cs.take o ++ vs ++ cs.drop (o + vs.length)
  | [], cs, o, _ => by simp [setL]
  | v :: r, cs, o, h => by
    have h' : o + 1 + r.length ≤ cs.length := by simp only [List.length_cons] at h; omega
    have ho : o < cs.length := by omega
    show setL (cs.set o v) (o + 1) r = _
    rw [setL_eq r (cs.set o v) (o + 1) (by rw [List.length_set]; exact h')]
    rw [List.take_set, List.drop_set_of_lt (by omega)]
    have e : (cs.take (o + 1)).set o v = cs.take o ++ [v] := by
      apply List.ext_getElem?
      intro i
      by_cases hi : i = o
      · subst hi
        rw [List.getElem?_set_self (by rw [List.length_take]; omega), List.getElem?_append_right (by rw [List.length_take]; omega), List.length_take, show i - min i cs.length = 0 by omega]
        rfl
      · rw [List.getElem?_set_ne (by omega)]
        by_cases hl : i < o
        · rw [List.getElem?_append_left (by rw [List.length_take]; omega), List.getElem?_take, List.getElem?_take, if_pos (by omega), if_pos hl]
        · rw [List.getElem?_eq_none (by rw [List.length_take]; omega), List.getElem?_eq_none (by simp only [List.length_append, List.length_take, List.length_cons, List.length_nil]; omega)]
    rw [e]
    simp only [List.length_cons, List.append_assoc, List.cons_append, List.nil_append, show o + 1 + r.length = o + (r.length + 1) by omega]
theorem TMs.puts {w W : World} {tL tM : TypeId} {src zer cs : List Value} (h : TMs w W tL tM src zer cs) (o : Nat) (vs : List Value) (hl : o + vs.length ≤ cs.length) : TMs w (W.setCells (w.heap.size + 1 + 1) o vs) tL tM src zer (cs.take o ++ vs ++ cs.drop (o + vs.length)) := by
  rw [← setL_eq vs cs o hl]
  exact h.sets o vs
/-- The cells of a channel's report. -/
abbrev crL (p : CA) (d : CD) : List Value := [.int .i64 d.fa, .slice p.a1 d.an.length p.c1, .int .i64 d.cl.fa, .slice p.cl.a1 d.cl.an.length p.cl.c1, .slice p.cl.a2 d.cl.se.length p.cl.c2, .slice p.cl.a3 d.cl.re.length p.cl.c3, .int .i64 d.cl.er, .int .i64 d.cl.ph, .int .i64 d.cl.al, .int .i64 d.cl.pa, .int .i64 d.cl.no, .bool d.cl.rs, .bool d.cl.et, .string d.cl.pr, .slice p.cl.a12 d.cl.ex.length p.cl.c12, .slice p.cl.a13 d.cl.tr.length p.cl.c13, .slice p.cl.a14 d.cl.tk.length p.cl.c14, .slice p.cl.a15 d.cl.pk.length p.cl.c15, .slice p.cl.a16 d.cl.rn.length p.cl.c16, .int .i64 d.cl.gt, .int .i64 d.cl.li, .string d.cl.ho, .string d.cl.sp, .int .i64 d.cl.ea, .int .i64 d.cl.wd, .slice p.cl.a23 d.cl.ms.length p.cl.c23, .int .i64 d.sv.fa, .slice p.sv.a1 d.sv.an.length p.sv.c1, .slice p.sv.a2 d.sv.se.length p.sv.c2, .slice p.sv.a3 d.sv.re.length p.sv.c3, .int .i64 d.sv.er, .int .i64 d.sv.ph, .int .i64 d.sv.al, .int .i64 d.sv.pa, .int .i64 d.sv.no, .bool d.sv.rs, .bool d.sv.et, .string d.sv.pr, .slice p.sv.a12 d.sv.ex.length p.sv.c12, .slice p.sv.a13 d.sv.tr.length p.sv.c13, .slice p.sv.a14 d.sv.tk.length p.sv.c14, .slice p.sv.a15 d.sv.pk.length p.sv.c15, .slice p.sv.a16 d.sv.rn.length p.sv.c16, .int .i64 d.sv.gt, .int .i64 d.sv.li, .string d.sv.ho, .string d.sv.sp, .int .i64 d.sv.ea, .int .i64 d.sv.wd, .slice p.sv.a23 d.sv.ms.length p.sv.c23, .slice p.a50 d.ts.length p.c50, .slice p.a51 d.tc.length p.c51]
theorem oneCr (p : CA) (d : CD) : (crL p d : List Value).toArray.all (·.oneCell') = true := all_oneCell_toArray fun v hv => by
  simp only [List.mem_cons, List.not_mem_nil, or_false] at hv
  rcases hv with rfl | rfl | rfl | rfl | rfl | rfl | rfl | rfl | rfl | rfl | rfl | rfl | rfl | rfl | rfl | rfl | rfl | rfl | rfl | rfl | rfl | rfl | rfl | rfl | rfl | rfl | rfl | rfl | rfl | rfl | rfl | rfl | rfl | rfl | rfl | rfl | rfl | rfl | rfl | rfl | rfl | rfl | rfl | rfl | rfl | rfl | rfl | rfl | rfl | rfl | rfl | rfl
  all_goals rfl
end Go.Proofs.Ytggclncbcdjnjaa
