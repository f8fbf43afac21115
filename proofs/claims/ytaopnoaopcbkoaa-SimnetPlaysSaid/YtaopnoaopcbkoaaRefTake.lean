/-
  The document's own network: Place, Take.
-/
import Derived.Test.YtaopnoaopcbkoaaRefSend
import Derived.Deep.Cut
namespace Go.Proofs.Ytaopnoaopcbkoaa.Ref
open Go.ChangeShapes Go.WideShapes Go.ChangeAt Go.RowKit Go.Deep
set_option linter.unusedVariables false
set_option linter.unusedSimpArgs false

def PlaceV (L : List Pk) (t z : Int) : Prop := (∃ i : Nat, ∃ h : i < L.length, z = (i : Int) ∧ (L[i].id : Int) = t) ∨ (z = -1 ∧ ∀ p ∈ L, (p.id : Int) ≠ t)
def PlaceE (L : List Pk) (t : Int) (e : Ending) : Prop := ∃ z : Int, e = .returned (.int .i64 z) ∧ PlaceV L t z
set_option maxRecDepth 100000 in
set_option maxHeartbeats 4000000 in
theorem Place_any (w : World) (B R : Nat) (N : NetV) (F : Nat → Prop) (h : Net w B R N F) (t : Int) (hl : N.wait.length ≤ 1099511627776) :
    Calls Try.prog 16 #[.pointer (some ⟨R, 0, none⟩), .int .i64 t] w fun e w' => w' = w ∧ PlaceE N.wait t e := by
  obtain ⟨wv, fv, c0, c1, c2, c3, c4, hz, hh, hR, hF, hW, hf⟩ := h.cells
  clear h
  obtain ⟨wp, wn, wc, hwv⟩ := hW.out.form
  have hlen : wn = N.wait.length := by
    obtain ⟨Ps, _, hr, _⟩ := hW.out
    rcases hr.2 with ⟨hv, h0⟩ | ⟨g, cap, cur, hv, _⟩
    · rw [hwv] at hv; simp at hv; omega
    · rw [hwv] at hv; simp at hv; omega
  subst hwv hlen
  obtain ⟨L, hL⟩ : ∃ L, N.wait = L := ⟨_, rfl⟩
  rw [hL] at hW hl c0 hh ⊢
  clear hL
  go_enter Try.func16, Try.ntmps16
  go_wp2_with fail
  go_loopw [5] (fun vi wr => ∃ i : Nat, vi = .int .i64 i ∧ i ≤ L.length ∧ wr = w ∧ Hid (∀ k (h : k < L.length), k < i → (L[k].id : Int) ≠ t)) (fun vi _ => L.length - (intOf vi).toNat)
  case atStart => exact ⟨0, rfl, Nat.zero_le _, rfl, Lib.hid (fun k h h' => absurd h' (Nat.not_lt_zero _))⟩
  case round =>
    obtain ⟨i, rfl, hiL, rfl, HA⟩ := hrel
    rcases Nat.lt_or_ge i L.length with hlt | hge
    · have hlt' : (i : Int) < (L.length : Int) := by omega
      obtain ⟨g, cap', bv, hv, q1, q2, p0, p1, p2, p3, hown, _⟩ := hW.out.atPk i hlt
      simp only [Value.slice.injEq, true_and] at hv
      obtain ⟨rfl, rfl⟩ := hv
      have hm : (wc : Int) ≤ 9223372036854775807 := by unfold maxLen at q2; omega
      obtain ⟨x, hx⟩ : ∃ x : Int, (L[i].id : Int) = x := ⟨_, rfl⟩
      rw [hx] at p0
      have HX := Lib.hid hx
      clear hown q2 hx
      by_cases hc : x = t
      · have HC := Lib.hid hc
        subst hc
        go_wp2
        go_ret
        exact ⟨rfl, (i : Int), rfl, .inl ⟨i, hlt, rfl, HX.out⟩⟩
      · have HC := Lib.hid hc
        go_wp2
        go_roundw
        case rel => exact ⟨i + 1, by go_num, hlt, by first | rfl | trivial, Lib.hid (fun k hk hki => by
          by_cases e : k = i
          · subst e; rw [HX.out]; exact HC.out
          · exact HA.out k hk (by omega))⟩
        case measure => simp [intOf]; omega
    · have hge' : ¬ (i : Int) < (L.length : Int) := by omega
      go_wp2
      go_ret
      refine ⟨rfl, -1, rfl, .inr ⟨rfl, fun p hp => ?_⟩⟩
      obtain ⟨k, hk, rfl⟩ := List.getElem_of_mem hp
      exact HA.out k hk (by omega)
/-- Packets appended to an owned row. -/
theorem step_append_row {ops : Array Oper} {o : Oper} {a : Act} {w : World} {K : Act → World → Prop} {Q : Exit → Act → World → Prop} {E : Prop} (hgd : o.guard = none) (s x : Operand)
    (ho : o.op = .call { callee := .builtin .append, args := #[s, x], argTypes := #[38, 38] }) (B : Nat) (v : Value) (n : Nat) (Ps0 Ps1 : List (Pk × Value)) (hs : a.eval s = v) (hown : w.ownsRow B 49 4 v n (rowOf Ps0))
    (ad : Addr) (m c : Nat) (hx : a.eval x = .slice (some ad) m c) (hm : Ps1.length = m) (hc : ∀ j u, (rowOf Ps1)[j]? = some u → w.cell? (ad.add j) = some u) (h1 : ∀ p ∈ Ps1, p.2.oneCell' = true)
    (hlen : n + m ≤ 1099511627776) (hB : B ≤ w.heap.size)
    (hK : ∀ v' w', w'.ownsRow B 49 4 v' (n + m) (rowOf (Ps0 ++ Ps1)) → Below B w w' → K (a.put o.dst v') w') :
    if Region.wanted o (yielded ops a.tmps) = true then Oper.wp Try.prog o a w K Q else E := by
  have hw : Region.wanted o (yielded ops a.tmps) = true := by simp [Region.wanted, hgd]
  rw [if_pos hw]
  obtain ⟨i, hi, hz, hz1, hz2⟩ := info_parts info_pk
  refine wp_append_own w s x 38 ho B 49 i _ 4 48 Try.underlying38 hi hz hz1 hz2 rfl (by decide) v n (rowOf Ps0) hs hown ad m c (rowOf Ps1) hx (by rw [rowOf_len, hm]) hc (rowOf_one h1)
    (by unfold maxLen; omega) (by omega) hB fun v' w' k1 k2 _ => hK v' w' (by rw [rowOf_append]; exact k1) ⟨k2.os, k2.tape, k2.output, k2.size, fun k hk => k2.block k (by omega) (fun he => by have := (World.ownsRow.lt hown k he.symm).1; omega)⟩
/-- What was taken. -/
def TakeE (w' : World) (F : Nat → Prop) (p : Pk) (e : Ending) : Prop := ∃ bv, e = .returned (.agg #[.int .i64 (p.id : Int), .int .i64 p.fr, .int .i64 p.to, bv]) ∧ HasA w' bv p.data ∧ (∀ g, bv.ownBlock = some g → F g)
theorem size_pk (W : World) : (sizeOf (Try.prog.elem 38)).run Try.prog W = .ok 4 W := by kernel_rfl
set_option maxRecDepth 100000 in
set_option maxHeartbeats 4000000 in
theorem Take_any (w : World) (B R : Nat) (N : NetV) (F : Nat → Prop) (h : Net w B R N F) (i : Nat) (hi : i < N.wait.length) (hl : N.wait.length ≤ 1099511627776) :
    Calls Try.prog 19 #[.pointer (some ⟨R, 0, none⟩), .int .i64 (i : Int)] w fun e w' => ∃ F', Net w' B R { N with wait := N.wait.eraseIdx i } F' ∧ Keeps F w w' ∧ (∀ k, k < w.heap.size → F' k → F k) ∧ TakeE w' F N.wait[i] e := by
  obtain ⟨wv, fv, c0, c1, c2, c3, c4, hz, hh, hR, hF, hW, hf⟩ := h.cells
  have hRl := h.lt
  clear h
  obtain ⟨Ps, hPs, hr, hg, hps⟩ := hW.out
  have hPl : Ps.length = N.wait.length := by rw [← hPs]; simp
  obtain ⟨g, cap, bv, hwv, q1, q2, p0, p1, p2, p3, hown, hbF⟩ := hW.out.atPk i hi
  subst hwv
  obtain ⟨pk, hpk⟩ : ∃ pk, N.wait[i] = pk := ⟨_, rfl⟩
  rw [hpk] at p0 p1 p2 hown ⊢
  have hgl : g < w.heap.size := (World.ownsRow.lt hr g rfl).2
  have hm : (cap : Int) ≤ 9223372036854775807 := by unfold maxLen at q2; omega
  have hbB : ∀ g, bv.ownBlock = some g → g < w.heap.size := fun g hg => (World.ownsRow.lt hown g hg).2
  obtain ⟨bp, bc, hbv, -, -⟩ := hown.has.form
  subst hbv
  have hcells : ∀ k, k < N.wait.length * 4 → w.cell? ⟨g, k, none⟩ = (rowOf Ps)[k]? := fun k hk => by
    have := World.ownsRow.cellAt hr k hk
    exact this
  obtain ⟨o1, ho1, ho1'⟩ := sliced_at g (i + 1) N.wait.length cap
  have hs2 : ∀ W, (Instr.slice 38 (.slice (some ⟨g, 0, none⟩) N.wait.length cap) none (some (.int .i64 (i : Int))) none).run Try.prog W = .ok (.slice (some ⟨g, 0, none⟩) i cap) W := fun W => by
    rw [run_slice_h (P := Try.prog) (w := W) (t := 38) (a := some ⟨g, 0, none⟩) (len := N.wait.length) (cap := cap) Try.underlying38 .i64 (i : Int) (by omega) (by omega), size_pk]
    simp only [Result.andThen, sliced, Int.toNat_natCast, Nat.sub_zero, Nat.zero_mul]
    congr 2
    split
    · rfl
    · simp [add_plain]
  have hs3 : ∀ W, (Instr.slice 38 (.slice (some ⟨g, 0, none⟩) N.wait.length cap) (some (.int .i64 ((i : Int) + 1))) none none).run Try.prog W = .ok (.slice (some ⟨g, o1, none⟩) (N.wait.length - (i + 1)) (cap - (i + 1))) W := fun W => by
    rw [run_slice_l (P := Try.prog) (w := W) (t := 38) (a := some ⟨g, 0, none⟩) (len := N.wait.length) (cap := cap) Try.underlying38 .i64 ((i : Int) + 1) (by omega) (by omega), size_pk, ← ho1]
    simp only [Result.andThen]
    congr 2 <;> omega
  have hone : ∀ p ∈ Ps, p.2.oneCell' = true := fun p hp => by
    obtain ⟨q, cap', hv, _⟩ := (hps p hp).1.has.form
    rw [hv]; rfl
  have hi' : (i : Int) < (N.wait.length : Int) := by omega
  have HS := Lib.hid hone
  have HPS := Lib.hid hps
  have HPL := Lib.hid hPl
  have HPE := Lib.hid hPs
  have HCE := Lib.hid hcells
  have HO1 := Lib.hid ho1'
  have HOWN := Lib.hid hown
  have HBF := Lib.hid hbF
  have HBB := Lib.hid hbB
  have HQ2 := Lib.hid q2
  clear hone hps hPl hPs hcells ho1' ho1 hown hbF hbB q2 hpk hr hg
  go_enter Try.func19, Try.ntmps19
  go_upto_region 2 with fail
  have hB1 : ∀ o o', Below w.heap.size w ((w.alloc o).alloc o') := fun o o' => ((Below.refl _ _).alloc (Nat.le_refl _) o).alloc (by have := alloc_size w o; omega) o'
  have hsz1 : ∀ o o', ((w.alloc o).alloc o').heap.size = w.heap.size + 2 := fun o o' => by rw [alloc_size, alloc_size]
  have hb4 : ((w.alloc (.cells #[.int .i64 0, .int .i64 0, .int .i64 0, .slice none 0 0] 49)).alloc (.cells #[.int .i64 (pk.id : Int), .int .i64 pk.fr, .int .i64 pk.to, .slice bp pk.data.length bc] 49)).heap[w.heap.size]? = some (.cells #[.int .i64 0, .int .i64 0, .int .i64 0, .slice none 0 0] 49 (0, 0)) := by
    have h1 := heap_alloc_new w (.cells #[.int .i64 0, .int .i64 0, .int .i64 0, .slice none 0 0] 49)
    exact (((Below.refl _ (w.alloc (.cells #[.int .i64 0, .int .i64 0, .int .i64 0, .slice none 0 0] 49))).alloc (Nat.le_refl _) _).block _ (lt_of_block h1)).trans h1
  have hb5 : ((w.alloc (.cells #[.int .i64 0, .int .i64 0, .int .i64 0, .slice none 0 0] 49)).alloc (.cells #[.int .i64 (pk.id : Int), .int .i64 pk.fr, .int .i64 pk.to, .slice bp pk.data.length bc] 49)).heap[w.heap.size + 1]? = some (.cells #[.int .i64 (pk.id : Int), .int .i64 pk.fr, .int .i64 pk.to, .slice bp pk.data.length bc] 49 (0, 0)) := by
    rw [← alloc_size w (.cells #[.int .i64 0, .int .i64 0, .int .i64 0, .slice none 0 0] 49)]
    exact heap_alloc_new _ _
  have hbw := hB1 (.cells #[.int .i64 0, .int .i64 0, .int .i64 0, .slice none 0 0] 49) (.cells #[.int .i64 (pk.id : Int), .int .i64 pk.fr, .int .i64 pk.to, .slice bp pk.data.length bc] 49)
  have hz1 := hsz1 (.cells #[.int .i64 0, .int .i64 0, .int .i64 0, .slice none 0 0] 49) (.cells #[.int .i64 (pk.id : Int), .int .i64 pk.fr, .int .i64 pk.to, .slice bp pk.data.length bc] 49)
  generalize ((w.alloc (.cells #[.int .i64 0, .int .i64 0, .int .i64 0, .slice none 0 0] 49)).alloc (.cells #[.int .i64 (pk.id : Int), .int .i64 pk.fr, .int .i64 pk.to, .slice bp pk.data.length bc] 49)) = w1 at *
  have HB4 := Lib.hid hb4
  have HB5 := Lib.hid hb5
  have HBW := Lib.hid hbw
  have d0 : w1.cell? ⟨R, 0, none⟩ = some (.slice (some ⟨g, 0, none⟩) N.wait.length cap) := (hbw.cell (p := ⟨R, 0, none⟩) hRl).trans c0
  clear hB1 hsz1 hb4 hb5 hbw
  refine AnyL.begin (S := fun w' => w'.cell? ⟨R, 0, none⟩ = some (.slice (some ⟨g, 0, none⟩) N.wait.length cap)) 19 (by kernel_rfl) d0 (fun hHeld => ?_)
  refine AnyL.take (i := 0) (oi := _) (v := ?_) 30 rfl (by kernel_rfl) (by kernel_rfl) (by kernel_rfl) (by kernel_rfl) (by kernel_rfl) (fun _ _ _ h => h) (Or.inl ⟨by rfl, ?hy⟩) (by assumption) ?rest
  case hy =>
    intro w9 hSw
    try dsimp only at hSw
    try simp only [List.getElem_toArray, List.getElem_cons_zero, List.getElem_cons_succ]
    go_simp
    try with_reducible rfl
  case rest =>
    try simp only [Act.put, List.setIfInBounds_toArray, List.set_cons_zero, List.set_cons_succ, List.getElem_toArray, List.getElem_cons_zero, List.getElem_cons_succ]
    refine AnyL.take (i := 2) (oi := _) (v := ?_) 30 rfl (by kernel_rfl) (by kernel_rfl) (by kernel_rfl) (by kernel_rfl) (by kernel_rfl) (fun _ _ _ h => h) (Or.inl ⟨by rfl, ?hy⟩) (by assumption) ?rest
    case hy =>
      intro w9 hSw
      try dsimp only at hSw
      try simp only [List.getElem_toArray, List.getElem_cons_zero, List.getElem_cons_succ]
      go_simp
      try with_reducible rfl
    case rest =>
      try simp only [Act.put, List.setIfInBounds_toArray, List.set_cons_zero, List.set_cons_succ, List.getElem_toArray, List.getElem_cons_zero, List.getElem_cons_succ]
      refine AnyL.take (i := 3) (oi := _) (v := ?_) 30 rfl (by kernel_rfl) (by kernel_rfl) (by kernel_rfl) (by kernel_rfl) (by kernel_rfl) (fun _ _ _ h => h) (Or.inl ⟨by rfl, ?hy⟩) (by assumption) ?rest
      case hy =>
        intro w9 hSw
        try dsimp only at hSw
        try simp only [List.getElem_toArray, List.getElem_cons_zero, List.getElem_cons_succ]
        go_simp
        try with_reducible rfl
      case rest =>
        try simp only [Act.put, List.setIfInBounds_toArray, List.set_cons_zero, List.set_cons_succ, List.getElem_toArray, List.getElem_cons_zero, List.getElem_cons_succ]
        refine AnyL.take (i := 4) (oi := _) (v := ?_) 30 rfl (by kernel_rfl) (by kernel_rfl) (by kernel_rfl) (by kernel_rfl) (by kernel_rfl) (fun _ _ _ h => h) (Or.inl ⟨by rfl, ?hy⟩) (by assumption) ?rest
        case hy =>
          intro w9 hSw
          try dsimp only at hSw
          try simp only [List.getElem_toArray, List.getElem_cons_zero, List.getElem_cons_succ]
          go_simp
          try with_reducible rfl
        case rest =>
          try simp only [Act.put, List.setIfInBounds_toArray, List.set_cons_zero, List.set_cons_succ, List.getElem_toArray, List.getElem_cons_zero, List.getElem_cons_succ]
          refine AnyL.take (i := 5) (oi := _) (v := ?_) 30 rfl (by kernel_rfl) (by kernel_rfl) (by kernel_rfl) (by kernel_rfl) (by kernel_rfl) (fun _ _ _ h => h) (Or.inl ⟨by rfl, ?hy⟩) (by assumption) ?rest
          case hy =>
            intro w9 hSw
            try dsimp only at hSw
            try simp only [List.getElem_toArray, List.getElem_cons_zero, List.getElem_cons_succ]
            go_simp
            try with_reducible rfl
          case rest =>
            try simp only [Act.put, List.setIfInBounds_toArray, List.set_cons_zero, List.set_cons_succ, List.getElem_toArray, List.getElem_cons_zero, List.getElem_cons_succ]
            refine AnyL.take (i := 6) (oi := _) (v := ?_) 30 rfl (by kernel_rfl) (by kernel_rfl) (by kernel_rfl) (by kernel_rfl) (by kernel_rfl) (fun _ _ _ h => h) (Or.inl ⟨by rfl, ?hy⟩) (by assumption) ?rest
            case hy =>
              intro w9 hSw
              try dsimp only at hSw
              try simp only [List.getElem_toArray, List.getElem_cons_zero, List.getElem_cons_succ]
              go_simp
              try with_reducible rfl
            case rest =>
              try simp only [Act.put, List.setIfInBounds_toArray, List.set_cons_zero, List.set_cons_succ, List.getElem_toArray, List.getElem_cons_zero, List.getElem_cons_succ]
              refine AnyL.take (i := 7) (oi := _) (v := ?_) 30 rfl (by kernel_rfl) (by kernel_rfl) (by kernel_rfl) (by kernel_rfl) (by kernel_rfl) (fun _ _ _ h => h) (Or.inl ⟨by rfl, ?hy⟩) (by assumption) ?rest
              case hy =>
                intro w9 hSw
                try dsimp only at hSw
                try simp only [List.getElem_toArray, List.getElem_cons_zero, List.getElem_cons_succ]
                go_simp
                try with_reducible rfl
              case rest =>
                try simp only [Act.put, List.setIfInBounds_toArray, List.set_cons_zero, List.set_cons_succ, List.getElem_toArray, List.getElem_cons_zero, List.getElem_cons_succ]
                refine AnyL.take (i := 9) (oi := _) (v := ?_) 30 rfl (by kernel_rfl) (by kernel_rfl) (by kernel_rfl) (by kernel_rfl) (by kernel_rfl) (fun _ _ _ h => h) (Or.inl ⟨by rfl, ?hy⟩) (by assumption) ?rest
                case hy =>
                  intro w9 hSw
                  try dsimp only at hSw
                  try simp only [List.getElem_toArray, List.getElem_cons_zero, List.getElem_cons_succ]
                  go_simp
                  try with_reducible rfl
                case rest =>
                  try simp only [Act.put, List.setIfInBounds_toArray, List.set_cons_zero, List.set_cons_succ, List.getElem_toArray, List.getElem_cons_zero, List.getElem_cons_succ]
                  refine AnyL.take (i := 10) (oi := _) (v := ?_) 30 rfl (by kernel_rfl) (by kernel_rfl) (by kernel_rfl) (by kernel_rfl) (by kernel_rfl) (fun _ _ _ h => h) (Or.inl ⟨by rfl, ?hy⟩) (by assumption) ?rest
                  case hy =>
                    intro w9 hSw
                    try dsimp only at hSw
                    try simp only [List.getElem_toArray, List.getElem_cons_zero, List.getElem_cons_succ]
                    go_simp
                    try with_reducible rfl
                  case rest =>
                    try simp only [Act.put, List.setIfInBounds_toArray, List.set_cons_zero, List.set_cons_succ, List.getElem_toArray, List.getElem_cons_zero, List.getElem_cons_succ]
                    refine AnyL.take (i := 11) (oi := _) (v := ?_) 30 rfl (by kernel_rfl) (by kernel_rfl) (by kernel_rfl) (by kernel_rfl) (by kernel_rfl) (fun _ _ _ h => h) (Or.inl ⟨by rfl, ?hy⟩) (by assumption) ?rest
                    case hy =>
                      intro w9 hSw
                      try dsimp only at hSw
                      try simp only [List.getElem_toArray, List.getElem_cons_zero, List.getElem_cons_succ]
                      go_simp
                      try with_reducible rfl
                    case rest =>
                      try simp only [Act.put, List.setIfInBounds_toArray, List.set_cons_zero, List.set_cons_succ, List.getElem_toArray, List.getElem_cons_zero, List.getElem_cons_succ]
                      refine AnyL.take (i := 12) (oi := _) (v := ?_) 30 rfl (by kernel_rfl) (by kernel_rfl) (by kernel_rfl) (by kernel_rfl) (by kernel_rfl) (fun _ _ _ h => h) (Or.inl ⟨by rfl, ?hy⟩) (by assumption) ?rest
                      case hy =>
                        intro w9 hSw
                        try dsimp only at hSw
                        try simp only [List.getElem_toArray, List.getElem_cons_zero, List.getElem_cons_succ]
                        go_simp
                        try with_reducible rfl
                      case rest =>
                        try simp only [Act.put, List.setIfInBounds_toArray, List.set_cons_zero, List.set_cons_succ, List.getElem_toArray, List.getElem_cons_zero, List.getElem_cons_succ]
                        refine AnyL.take (i := 13) (oi := _) (v := ?_) 30 rfl (by kernel_rfl) (by kernel_rfl) (by kernel_rfl) (by kernel_rfl) (by kernel_rfl) (fun _ _ _ h => h) (Or.inl ⟨by rfl, ?hy⟩) (by assumption) ?rest
                        case hy =>
                          intro w9 hSw
                          try dsimp only at hSw
                          try simp only [List.getElem_toArray, List.getElem_cons_zero, List.getElem_cons_succ]
                          go_simp
                          try with_reducible rfl
                        case rest =>
                          try simp only [Act.put, List.setIfInBounds_toArray, List.set_cons_zero, List.set_cons_succ, List.getElem_toArray, List.getElem_cons_zero, List.getElem_cons_succ]
                          refine AnyL.take (i := 14) (oi := _) (v := (.int .i64 ((i : Int) + 1))) 30 rfl (by kernel_rfl) (by kernel_rfl) (by kernel_rfl) (by kernel_rfl) (by kernel_rfl) (fun _ _ _ h => h) (Or.inl ⟨by rfl, ?hy⟩) (by assumption) ?rest
                          case hy =>
                            intro w9 hSw
                            try dsimp only at hSw
                            try simp only [List.getElem_toArray, List.getElem_cons_zero, List.getElem_cons_succ]
                            go_simp
                            all_goals (rw [IntKind.wrap_i64]; omega)
                          case rest =>
                            try simp only [Act.put, List.setIfInBounds_toArray, List.set_cons_zero, List.set_cons_succ, List.getElem_toArray, List.getElem_cons_zero, List.getElem_cons_succ]
                            refine AnyL.take (i := 15) (oi := _) (v := ?_) 30 rfl (by kernel_rfl) (by kernel_rfl) (by kernel_rfl) (by kernel_rfl) (by kernel_rfl) (fun _ _ _ h => h) (Or.inl ⟨by rfl, ?hy⟩) (by assumption) ?rest
                            case hy =>
                              intro w9 hSw
                              try dsimp only at hSw
                              try simp only [List.getElem_toArray, List.getElem_cons_zero, List.getElem_cons_succ]
                              go_simp
                              try with_reducible rfl
                            case rest =>
                              try simp only [Act.put, List.setIfInBounds_toArray, List.set_cons_zero, List.set_cons_succ, List.getElem_toArray, List.getElem_cons_zero, List.getElem_cons_succ]
                              refine AnyL.one (i := 1) (o := _) (by kernel_rfl) rfl (fun K hK => ?_)
                              try simp only [List.getElem_toArray, List.getElem_cons_zero, List.getElem_cons_succ]
                              go_simp
                              have hbA : Below w1.heap.size w1 (w1.alloc (.cells #[] 49)).drew := ((Below.refl w1.heap.size w1).alloc (Nat.le_refl _) _).drew
                              have hoA : (w1.alloc (.cells #[] 49)).drew.ownsRow (w.heap.size + 2) 49 4 (.slice (some ⟨w.heap.size + 2, 0, none⟩) 0 0) 0 (rowOf []) := by
                                refine ⟨rfl, .inr ⟨w.heap.size + 2, 0, #[], rfl, by omega, ?_, Nat.le_refl _, Nat.zero_le _, rfl, rfl⟩⟩
                                rw [← hz1]
                                exact heap_alloc_new w1 _
                              generalize (w1.alloc (.cells #[] 49)).drew = wA at *
                              have hzA := hbA.size
                              have y0 : wA.cell? ⟨R, 0, none⟩ = some (.slice (some ⟨g, 0, none⟩) N.wait.length cap) := (hbA.cell (p := ⟨R, 0, none⟩) (by show R < _; omega)).trans d0
                              have HBA := Lib.hid (HBW.out.trans (hbA.mono (by omega)))
                              have HKA := Lib.hid hbA
                              have HOA := Lib.hid hoA
                              clear hbA hoA
                              refine hK.out _ _ (fun _ => y0) (fun hHeld => ?_)
                              replace hHeld := hHeld (by decide)
                              clear hK K
                              try simp only [Act.put, List.setIfInBounds_toArray, List.set_cons_zero, List.set_cons_succ, List.getElem_toArray, List.getElem_cons_zero, List.getElem_cons_succ]
                              refine AnyL.one (i := 8) (o := _) (by kernel_rfl) rfl (fun K hK => ?_)
                              refine step_append_row ?hgd (.tmp 14) (.tmp 20) ?ho (w.heap.size + 2) (.slice (some ⟨w.heap.size + 2, 0, none⟩) 0 0) 0 [] (Ps.take i) ?hs HOA.out ⟨g, 0, none⟩ i cap ?hx ?hm ?hc ?h1 ?hlen ?hB ?hK
                              case hgd => rfl
                              case ho => rfl
                              case hs => rfl
                              case hx => rfl
                              case hm => rw [List.length_take]; have := HPL.out; omega
                              case hc =>
                                intro j u hu
                                have hj : j < i * 4 := by
                                  have h1 := (List.getElem?_eq_some_iff.1 hu).1
                                  rw [rowOf_len, List.length_take] at h1
                                  have := HPL.out
                                  omega
                                rw [add_plain, Nat.zero_add, HBA.out.cell (p := ⟨g, j, none⟩) hgl, HCE.out j (by omega)]
                                rw [← rowOf_take Ps i (by have := HPL.out; omega), List.getElem?_take_of_lt hj] at hu
                                exact hu
                              case h1 => exact fun p hp => HS.out p (List.mem_of_mem_take hp)
                              case hlen => omega
                              case hB => omega
                              intro v5 w5 ho5 hb5
                              rw [Nat.zero_add, List.nil_append] at ho5
                              have hz5 := hb5.size
                              have hb5' : Below w.heap.size w w5 := HBA.out.trans (hb5.mono (by omega))
                              have e0 : w5.cell? ⟨R, 0, none⟩ = some (.slice (some ⟨g, 0, none⟩) N.wait.length cap) := (hb5'.cell (p := ⟨R, 0, none⟩) hRl).trans c0
                              obtain ⟨v5p, v5n, v5c, hv5⟩ : ∃ p n c, v5 = .slice p n c := by
                                rcases ho5.2 with ⟨hv, _⟩ | ⟨g, cap, cur, hv, _⟩
                                · exact ⟨_, _, _, hv⟩
                                · exact ⟨_, _, _, hv⟩
                              subst hv5
                              have HO5 := Lib.hid ho5
                              have HB5' := Lib.hid hb5'
                              have HK5 := Lib.hid hb5
                              clear ho5 hb5 hb5'
                              refine hK.out _ _ (fun _ => e0) (fun hHeld => ?_)
                              replace hHeld := hHeld (by decide)
                              clear hK K
                              try simp only [Act.put, List.setIfInBounds_toArray, List.set_cons_zero, List.set_cons_succ, List.getElem_toArray, List.getElem_cons_zero, List.getElem_cons_succ]
                              refine AnyL.one (i := 16) (o := _) (by kernel_rfl) rfl (fun K hK => ?_)
                              refine step_append_row ?hgd2 (.tmp 21) (.tmp 28) ?ho2 (w.heap.size + 2) (.slice v5p v5n v5c) i (Ps.take i) (Ps.drop (i + 1)) ?hs2 HO5.out ⟨g, o1, none⟩ (N.wait.length - (i + 1)) (cap - (i + 1)) ?hx2 ?hm2 ?hc2 ?h12 ?hlen2 ?hB2 ?hK2
                              case hgd2 => rfl
                              case ho2 => rfl
                              case hs2 => rfl
                              case hx2 => rfl
                              case hm2 => rw [List.length_drop, HPL.out]
                              case hc2 =>
                                intro j u hu
                                have hj : j < (N.wait.length - (i + 1)) * 4 := by
                                  have h1 := (List.getElem?_eq_some_iff.1 hu).1
                                  rw [rowOf_len, List.length_drop, HPL.out] at h1
                                  exact h1
                                rw [HO1.out (by omega), add_plain, HB5'.out.cell (p := ⟨g, (i + 1) * 4 + j, none⟩) hgl, HCE.out _ (by omega)]
                                rw [← rowOf_drop Ps (i + 1) (by have := HPL.out; omega), List.getElem?_drop] at hu
                                exact hu
                              case h12 => exact fun p hp => HS.out p (List.mem_of_mem_drop hp)
                              case hlen2 => omega
                              case hB2 => omega
                              intro v6 w6 ho6 hb6
                              have hz6 := hb6.size
                              rw [show i + (N.wait.length - (i + 1)) = N.wait.length - 1 by omega, ← List.eraseIdx_eq_take_drop_succ] at ho6
                              have hb6' : Below w.heap.size w w6 := HB5'.out.trans (hb6.mono (by omega))
                              have f0 : w6.cell? ⟨R, 0, none⟩ = some (.slice (some ⟨g, 0, none⟩) N.wait.length cap) := (hb6'.cell (p := ⟨R, 0, none⟩) hRl).trans c0
                              have hfR : w6.frozen? ⟨R, 0, none⟩ = false := by
                                have := hb6'.block R hRl
                                simp [World.frozen?, this, hh.out]
                              obtain ⟨v6p, v6n, v6c, hv6⟩ : ∃ p n c, v6 = .slice p n c := by
                                rcases ho6.2 with ⟨hv, _⟩ | ⟨g, cap, cur, hv, _⟩
                                · exact ⟨_, _, _, hv⟩
                                · exact ⟨_, _, _, hv⟩
                              subst hv6
                              have hk6 : Below (w.heap.size + 2) w1 w6 := ((HKA.out.mono (by omega)).trans HK5.out).trans hb6
                              have g4 := (hk6.block w.heap.size (by omega)).trans HB4.out
                              have g5 := (hk6.block (w.heap.size + 1) (by omega)).trans HB5.out
                              have HO6 := Lib.hid ho6
                              have HB6 := Lib.hid hb6'
                              have HG4 := Lib.hid g4
                              have HG5 := Lib.hid g5
                              clear ho6 hb6 hb6' hk6 g4 g5
                              refine hK.out _ _ (fun _ => f0) (fun hHeld => ?_)
                              replace hHeld := hHeld (by decide)
                              clear hK K
                              try simp only [Act.put, List.setIfInBounds_toArray, List.set_cons_zero, List.set_cons_succ, List.getElem_toArray, List.getElem_cons_zero, List.getElem_cons_succ]
                              refine AnyL.take (i := 17) (oi := _) (v := ?_) 30 rfl (by kernel_rfl) (by kernel_rfl) (by kernel_rfl) (by kernel_rfl) (by kernel_rfl) (fun _ _ _ h => h) (Or.inl ⟨by rfl, ?hy⟩) (by assumption) ?rest
                              case hy =>
                                intro w9 hSw
                                try dsimp only at hSw
                                try simp only [List.getElem_toArray, List.getElem_cons_zero, List.getElem_cons_succ]
                                go_simp
                                try with_reducible rfl
                              case rest =>
                                try simp only [Act.put, List.setIfInBounds_toArray, List.set_cons_zero, List.set_cons_succ, List.getElem_toArray, List.getElem_cons_zero, List.getElem_cons_succ]
                                refine AnyL.take (i := 18) (oi := _) (v := ?_) 30 rfl (by kernel_rfl) (by kernel_rfl) (by kernel_rfl) (by kernel_rfl) (by kernel_rfl) (fun _ _ _ h => h) (Or.inl ⟨by rfl, ?hy⟩) (by assumption) ?rest
                                case hy =>
                                  intro w9 hSw
                                  try dsimp only at hSw
                                  try simp only [List.getElem_toArray, List.getElem_cons_zero, List.getElem_cons_succ]
                                  go_simp
                                  try with_reducible rfl
                                case rest =>
                                  try simp only [Act.put, List.setIfInBounds_toArray, List.set_cons_zero, List.set_cons_succ, List.getElem_toArray, List.getElem_cons_zero, List.getElem_cons_succ]
                                  refine AnyL.one (i := 19) (o := _) (by kernel_rfl) rfl (fun K hK => ?_)
                                  try simp only [List.getElem_toArray, List.getElem_cons_zero, List.getElem_cons_succ]
                                  go_simp
                                  refine hK.out _ _ (fun h => absurd rfl h) (fun _ => ?_)
                                  clear hK K
                                  try simp only [Act.put, List.setIfInBounds_toArray, List.set_cons_zero, List.set_cons_succ, List.getElem_toArray, List.getElem_cons_zero, List.getElem_cons_succ]
                                  refine AnyL.done (by kernel_rfl) ?_ _
                                  have hne4 : w.heap.size ≠ R := by omega
                                  have hne5 : w.heap.size + 1 ≠ R := by omega
                                  obtain ⟨w7, hw7⟩ : ∃ w7, w7 = w6.setCell ⟨R, 0, none⟩ (.slice v6p v6n v6c) := ⟨_, rfl⟩
                                  rw [← hw7]
                                  have k4 : w7.heap[w.heap.size]? = some (.cells #[.int .i64 0, .int .i64 0, .int .i64 0, .slice none 0 0] 49 (0, 0)) := by rw [hw7, Below.heap_setCell _ _ _ _ hne4]; exact HG4.out
                                  have k5 : w7.heap[w.heap.size + 1]? = some (.cells #[.int .i64 (pk.id : Int), .int .i64 pk.fr, .int .i64 pk.to, .slice bp pk.data.length bc] 49 (0, 0)) := by rw [hw7, Below.heap_setCell _ _ _ _ hne5]; exact HG5.out
                                  have m0 : w7.cell? ⟨w.heap.size + 1, 0, none⟩ = some (.int .i64 (pk.id : Int)) := by simp [World.cell?, k5]
                                  have m1 : w7.cell? ⟨w.heap.size + 1, 1, none⟩ = some (.int .i64 pk.fr) := by simp [World.cell?, k5]
                                  have m2 : w7.cell? ⟨w.heap.size + 1, 2, none⟩ = some (.int .i64 pk.to) := by simp [World.cell?, k5]
                                  have m3 : w7.cell? ⟨w.heap.size + 1, 3, none⟩ = some (.slice bp pk.data.length bc) := by simp [World.cell?, k5]
                                  have n0 : w7.cell? ⟨w.heap.size, 0, none⟩ = some (.int .i64 0) := by simp [World.cell?, k4]
                                  have n1 : w7.cell? ⟨w.heap.size, 1, none⟩ = some (.int .i64 0) := by simp [World.cell?, k4]
                                  have n2 : w7.cell? ⟨w.heap.size, 2, none⟩ = some (.int .i64 0) := by simp [World.cell?, k4]
                                  have n3 : w7.cell? ⟨w.heap.size, 3, none⟩ = some (.slice none 0 0) := by simp [World.cell?, k4]
                                  have nf : ∀ j, w7.frozen? ⟨w.heap.size, j, none⟩ = false := fun j => by simp [World.frozen?, k4]
                                  have HW7 := Lib.hid hw7
                                  have HK4 := Lib.hid k4
                                  clear hw7 k4 k5
                                  go_wp2
                                  have hw7 := HW7.out
                                  have hsz7 : w7.heap.size = w6.heap.size := by rw [hw7]; exact World.size_setCell _ _ _
                                  have hR6 := (HB6.out.block R hRl).trans hh.out
                                  have hR7 : w7.heap[R]? = some (.cells #[.slice v6p v6n v6c, .int .i64 (N.sent : Int), .int .i64 N.now, fv, .int .u64 (N.seed : Int)] 42 (0, 0)) := by
                                    rw [hw7, heap_setCell_same _ _ _ _ _ _ hR6]; rfl
                                  have hfar7 : ∀ k, k < w.heap.size → k ≠ R → w7.heap[k]? = w.heap[k]? := fun k hk hne => by
                                    rw [hw7, Below.heap_setCell _ _ _ _ hne]; exact HB6.out.block k hk
                                  obtain ⟨w8, hw8⟩ : ∃ w8, w8 = ((((w7.setCell ⟨w.heap.size, 0, none⟩ (.int .i64 (pk.id : Int))).setCell ⟨w.heap.size, 1, none⟩ (.int .i64 pk.fr)).setCell ⟨w.heap.size, 2, none⟩ (.int .i64 pk.to)).setCell ⟨w.heap.size, 3, none⟩ (.slice bp pk.data.length bc)) := ⟨_, rfl⟩
                                  rw [← hw8]
                                  have hfar8 : ∀ k, k ≠ w.heap.size → w8.heap[k]? = w7.heap[k]? := fun k hk => by
                                    rw [hw8, Below.heap_setCell _ _ _ _ hk, Below.heap_setCell _ _ _ _ hk, Below.heap_setCell _ _ _ _ hk, Below.heap_setCell _ _ _ _ hk]
                                  have hsz8 : w8.heap.size = w6.heap.size := by rw [hw8, World.size_setCell, World.size_setCell, World.size_setCell, World.size_setCell, hsz7]
                                  have hA8 : w8.heap[w.heap.size]? = some (.cells #[.int .i64 (pk.id : Int), .int .i64 pk.fr, .int .i64 pk.to, .slice bp pk.data.length bc] 49 (0, 0)) := by
                                    rw [hw8, heap_setCell_same _ _ _ _ _ _ (heap_setCell_same _ _ _ _ _ _ (heap_setCell_same _ _ _ _ _ _ (heap_setCell_same _ _ _ _ _ _ HK4.out)))]
                                    rfl
                                  have hk8 : Keeps F w w8 := by
                                    rw [hw8, hw7]
                                    exact (((((Keeps.of_below (F := F) HB6.out).setCell _ _ (fun _ => hR.out)).setCell _ _ (fun h => absurd h (Nat.lt_irrefl _))).setCell _ _ (fun h => absurd h (Nat.lt_irrefl _))).setCell _ _ (fun h => absurd h (Nat.lt_irrefl _))).setCell _ _ (fun h => absurd h (Nat.lt_irrefl _))
                                  have hown8 : ∀ (bv : Value) (l : List UInt8), Own w B 5 bv l → Own w8 B 5 bv l := fun bv l ho => Own.stays ho (fun k c hc => by
                                    have hkl := lt_of_block hc
                                    have hne : k ≠ R := fun e => by subst e; rw [hh.out] at hc; simp at hc
                                    rw [hfar8 k (by omega), hfar7 k hkl hne])
                                  refine bodyPost_ret (results_cell_row (p := 4) (ty := 49) rfl _ _ w.heap.size 49 #[.int .i64 (pk.id : Int), .int .i64 pk.fr, .int .i64 pk.to, .slice bp pk.data.length bc] (0, 0) _ rfl hA8 Try.underlying49 rfl (by kernel_rfl)) rfl ?_
                                  have hBw : B ≤ w.heap.size := by have := hF.out R hR.out; omega
                                  refine ⟨fun k => F k ∨ (w.heap.size + 2 ≤ k ∧ k < w6.heap.size), ⟨.slice v6p v6n v6c, fv, (hfar8 R (fun e => hne4 e.symm)).trans hR7, .inl hR.out, fun k hk => ?_, ⟨Ps.eraseIdx i, ?_, ?_, fun k hk => .inr ?_, fun p hp => ?_⟩, hf.out.same (fun _ _ h => .inl h) (fun k c hk hc => ?_)⟩, hk8, fun k hk hf => ?_, _, rfl, (hown8 _ _ HOWN.out).has.wide, HBF.out⟩
                                  · rw [hsz8]
                                    rcases hk with hk | hk
                                    · have := hF.out k hk
                                      have := HB6.out.size
                                      omega
                                    · omega
                                  · rw [← HPE.out, List.eraseIdx_eq_take_drop_succ, List.eraseIdx_eq_take_drop_succ, List.map_append, List.map_take, List.map_drop]
                                  · have hlen : (N.wait.eraseIdx i).length = N.wait.length - 1 := by rw [List.length_eraseIdx]; simp [hi]
                                    show w8.ownsRow B 49 4 _ (N.wait.eraseIdx i).length _
                                    rw [hlen]
                                    refine Joins.ownsRow_le (base := w.heap.size + 2) (base' := B) ⟨HO6.out.1, HO6.out.2.imp id fun ⟨g', cap', cur', hv, hB', hh', r⟩ => ⟨g', cap', cur', hv, hB', ?_, r⟩⟩ (by omega)
                                    rw [hfar8 g' (by omega), hw7, Below.heap_setCell _ _ _ _ (by show g' ≠ R; omega)]
                                    exact hh'
                                  · exact World.ownsRow.lt HO6.out k hk
                                  · obtain ⟨k1, k2⟩ := HPS.out p (List.mem_of_mem_eraseIdx hp)
                                    exact ⟨hown8 _ _ k1, fun g hg => .inl (k2 g hg)⟩
                                  · have hkl := lt_of_block hc
                                    rw [hfar8 k (by omega), hfar7 k hkl (fun e => by subst e; rw [hh.out] at hc; simp at hc)]
                                  · rcases hf with h | h
                                    · exact h
                                    · omega
end Go.Proofs.Ytaopnoaopcbkoaa.Ref
