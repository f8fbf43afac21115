/-
  Package simnet: Deliver.
-/
import Derived.Test.YtaopnoaopcbkoaaNetDo
import Derived.Test.YtaopnoaopcbkoaaSlices
namespace Go.Proofs.Ytaopnoaopcbkoaa
open Go.ChangeShapes Go.WideShapes Go.ChangeAt Go.RowKit Go.Deep
set_option linter.unusedVariables false
set_option linter.unusedSimpArgs false

theorem results_tmp4 {fn : Func} {t u v x : Tmp} (h : fn.results = #[.tmp t, .tmp u, .tmp v, .tmp x]) (tmps : Array Value) (P : Program) (w : World) :
    (results fn tmps).run P w = .ok (.tuple #[tmps.getD t undef, tmps.getD u undef, tmps.getD v undef, tmps.getD x undef]) w := by
  simp [results, h]
theorem alloc_size (w : World) (o : Obj) : (w.alloc o).heap.size = w.heap.size + 1 := Array.size_push _
def cutV (most : Int) (l : List UInt8) : List UInt8 := if 0 ≤ most ∧ most < l.length then l.take most.toNat else l
/-- What is delivered. -/
def DeliverE (w' : World) (z : Nat) (F : Nat → Prop) (N : NetV) (t most : Int) (e : Ending) : Prop := match pkAt N.wait t with
  | none => e = .returned (.tuple #[.int .i64 0, .int .i64 0, .slice none 0 0, .int .i64 4])
  | some p => ∃ bv, e = .returned (.tuple #[.int .i64 p.fr, .int .i64 p.to, bv, .int .i64 0]) ∧ HasA w' bv (cutV most p.data) ∧ (∀ g, bv.ownBlock = some g → F g ∨ z ≤ g) ∧ (0 ≤ most → most < p.data.length → ∀ g, bv.ownBlock = some g → z ≤ g)
set_option maxRecDepth 100000 in
set_option maxHeartbeats 4000000 in
theorem Deliver_any (w : World) (B R : Nat) (N : NetV) (F : Nat → Prop) (h : Net w B R N F) (t most : Int) (hl : N.wait.length ≤ 1099511627776) (hs : Sorted N.wait) (hd : ∀ p ∈ N.wait, p.data.length ≤ 140737488355328) :
    Calls Try.prog 10 #[.pointer (some ⟨R, 0, none⟩), .int .i64 t, .int .i64 most] w fun e w' => Net w' B R (takeV N t) F ∧ Keeps F w w' ∧ DeliverE w' w.heap.size F N t most e := by
  have HC := Lib.hid (place_any w B R N F h t hl hs)
  have HH := Lib.hid h
  have HS := Lib.hid hs
  have HD := Lib.hid hd
  clear h hs hd
  go_enter Try.func10, Try.ntmps10
  go_wp2_with fail
  refine HC.out.mono ?_
  rintro e w1 ⟨hb, i, f, rfl, hif⟩
  have HB := Lib.hid hb
  have HN := Lib.hid (HH.out.below hb)
  have hz1 := hb.size
  clear hb
  rcases hif with ⟨rfl, hi, hid⟩ | ⟨rfl, hno⟩
  · obtain ⟨wv, fv, c0, c1, c2, c3, c4, hz, hh, hR, hF, hW, hf⟩ := HN.out.cells
    have hi' : (i : Int) < (N.wait.length : Int) := by omega
    obtain ⟨g, cap, bv, hwv, q1, q2, p0, p1, p2, p3, hown, hbF⟩ := hW.out.atPk i hi
    have HPK := Lib.hid (pkAt_some HS.out hi hid)
    have HWO := Lib.hid (without_some HS.out hi hid)
    subst hwv
    have hm : (cap : Int) ≤ 9223372036854775807 := by unfold maxLen at q2; omega
    have HQ := Lib.hid q2
    have hlen := HD.out _ (List.getElem_mem hi)
    obtain ⟨pk, hpk⟩ : ∃ pk, N.wait[i] = pk := ⟨_, rfl⟩
    rw [hpk] at p0 p1 p2 hown HPK hlen
    obtain ⟨bp, bc, hbv, hbc, hbm⟩ := hown.has.form
    subst hbv
    have hbm' : (bc : Int) ≤ 9223372036854775807 := by unfold maxLen at hbm; omega
    have HBM := Lib.hid hbm
    have HOWN := Lib.hid hown
    have HBF := Lib.hid hbF
    have hb2 : ∀ o, Below w1.heap.size w1 (w1.alloc o) := fun o => (Below.refl w1.heap.size w1).alloc (Nat.le_refl _) o
    have HB2 := Lib.hid hb2
    have hal : ∀ o, (w1.alloc o).cell? ⟨R, 0, none⟩ = some (.slice (some ⟨g, 0, none⟩) N.wait.length cap) := fun o => (World.cell?_alloc_lt _ _ _ (show (⟨R, 0, none⟩ : Addr).block < w1.heap.size from lt_of_block hh.out)).trans c0
    clear hid hown hbF q2 hpk hb2 hbm
    go_wp2_with fail
    refine (Delete_any _ B (.slice (some ⟨g, 0, none⟩) N.wait.length cap) N.wait F (hW.out.later (HB2.out (.cells #[.int .i64 (pk.id : Int), .int .i64 pk.fr, .int .i64 pk.to, .slice bp pk.data.length bc] 72))) i hi ((i : Int) + 1) rfl hl).mono ?_
    rintro e w3 ⟨v', rfl, hw3, hk3, ho3, hs3⟩
    have hRl := lt_of_block hh.out
    have hzz := (HB2.out (.cells #[.int .i64 (pk.id : Int), .int .i64 pk.fr, .int .i64 pk.to, .slice bp pk.data.length bc] 72)).size
    have hh2 := ((HB2.out (.cells #[.int .i64 (pk.id : Int), .int .i64 pk.fr, .int .i64 pk.to, .slice bp pk.data.length bc] 72)).block R hRl).trans hh.out
    have hf2 : FRow (w1.alloc (.cells #[.int .i64 (pk.id : Int), .int .i64 pk.fr, .int .i64 pk.to, .slice bp pk.data.length bc] 72)) B fv N.fed F := hf.out.same (fun _ _ h => h) (fun k c hk hc => (HB2.out (.cells #[.int .i64 (pk.id : Int), .int .i64 pk.fr, .int .i64 pk.to, .slice bp pk.data.length bc] 72)).block k (lt_of_block hc))
    have hfin := Net.wrote hh2 hR.out (fun k hk => ⟨(hF.out k hk).1, by have := (hF.out k hk).2; omega⟩) hf2 hw3 ho3 hs3
    have hh3 := (ho3 R (by omega) (fun c hc => by rw [hh2] at hc; simp at hc)).trans hh2
    obtain ⟨e0, e1, e2, e3, e4, ez⟩ := net_cells hh3
    have hneF : ¬ F w1.heap.size := fun hf => by have := hF.out _ hf; omega
    have hA := (hk3.block w1.heap.size (by have := lt_of_block (heap_alloc_new w1 (.cells #[.int .i64 (pk.id : Int), .int .i64 pk.fr, .int .i64 pk.to, .slice bp pk.data.length bc] 72)); exact this) hneF).trans (heap_alloc_new w1 (.cells #[.int .i64 (pk.id : Int), .int .i64 pk.fr, .int .i64 pk.to, .slice bp pk.data.length bc] 72))
    have hneR : w1.heap.size ≠ R := by omega
    obtain ⟨vp, vn, vc, hv'⟩ := hw3.form
    subst hv'
    obtain ⟨w4, hw4⟩ : ∃ w4, w4 = w3.setCell ⟨R, 0, none⟩ (.slice vp vn vc) := ⟨_, rfl⟩
    have hA4 : w4.heap[w1.heap.size]? = some (.cells #[.int .i64 (pk.id : Int), .int .i64 pk.fr, .int .i64 pk.to, .slice bp pk.data.length bc] 72 (0, 0)) := by rw [hw4, Below.heap_setCell _ _ _ _ hneR]; exact hA
    have hown4 : Own w4 B 5 (.slice bp pk.data.length bc) pk.data := by
      refine Own.stays (w := w3) (Own.stays (w := w1.alloc (.cells #[.int .i64 (pk.id : Int), .int .i64 pk.fr, .int .i64 pk.to, .slice bp pk.data.length bc] 72)) (HOWN.out.below (HB2.out (.cells #[.int .i64 (pk.id : Int), .int .i64 pk.fr, .int .i64 pk.to, .slice bp pk.data.length bc] 72))) (fun k c hc => ho3 k (lt_of_block hc) (fun c' hc' => by rw [hc] at hc'; simp at hc'))) (fun k c hc => ?_)
      rw [hw4]
      exact Below.heap_setCell _ _ _ _ (fun e => by subst e; rw [hh3] at hc; simp at hc)
    have hz4 : w4.heap.size = w1.heap.size + 1 := by
      rw [hw4, World.size_setCell, hs3]
      exact alloc_size _ _
    have hk4 : Keeps F w w4 := by rw [hw4]; exact (((Keeps.of_below HB.out).trans (Keeps.of_below (HB2.out (.cells #[.int .i64 (pk.id : Int), .int .i64 pk.fr, .int .i64 pk.to, .slice bp pk.data.length bc] 72))) (F := F) (fun _ _ h => h)).trans hk3 (fun _ _ h => h)).setCell _ _ (fun _ => hR.out)
    rw [← hw4] at hfin
    have a1 : w4.cell? ⟨w1.heap.size, 1, none⟩ = some (.int .i64 pk.fr) := by simp [World.cell?, hA4]
    have a2 : w4.cell? ⟨w1.heap.size, 2, none⟩ = some (.int .i64 pk.to) := by simp [World.cell?, hA4]
    have a3 : w4.cell? ⟨w1.heap.size, 3, none⟩ = some (.slice bp pk.data.length bc) := by simp [World.cell?, hA4]
    have a3' := a3
    rw [hw4] at a3'
    have HFIN : Hid (Net w4 B R (takeV N t) F) := Lib.hid (by unfold takeV; rw [HWO.out]; exact hfin)
    have HK4 := Lib.hid hk4
    have HW4 := Lib.hid hw4
    have hA4' : HasA w4 (.slice bp pk.data.length bc) pk.data := hown4.has.wide
    have HA4 := Lib.hid hA4'
    clear hw3 hk3 ho3 hs3 hh2 hf2 hfin hh3 hneF hA hw4 hA4 hown4 hk4 hA4'
    by_cases h0 : 0 ≤ most
    · by_cases h1 : most < (pk.data.length : Int)
      · have HCUT : Hid (cutV most pk.data = pk.data.take most.toNat) := Lib.hid (by unfold cutV; rw [if_pos ⟨h0, h1⟩])
        obtain ⟨m, rfl⟩ : ∃ m : Nat, most = (m : Int) := ⟨most.toNat, by omega⟩
        have hml : m ≤ pk.data.length := by omega
        obtain ⟨sp, sc, hsl, hsh⟩ := HA4.out.head m hml
        have HSH := Lib.hid hsh
        have htl : (pk.data.take m).length = m := by rw [List.length_take]; omega
        have HTL := Lib.hid htl
        clear hsh htl
        go_wp2_with fail
        rw [← HW4.out]
        refine wp_region_held_drew (S := fun w' => w'.cell? ⟨w1.heap.size, 1, none⟩ = some (.int .i64 pk.fr) ∧ w'.cell? ⟨w1.heap.size, 2, none⟩ = some (.int .i64 pk.to) ∧ w'.cell? ⟨w1.heap.size, 3, none⟩ = some (.slice bp pk.data.length bc)) (by kernel_rfl) ⟨a1, a2, a3⟩ (fun hHeld => ?_)
        refine wpAnyH_take (i := 0) (oi := _) (v := ?_) rfl (by kernel_rfl) (by kernel_rfl) (by kernel_rfl) (fun _ _ _ h => h) (Or.inl ⟨by rfl, ?hy⟩) (by assumption) ?rest
        case hy =>
          intro w9 hSw
          try dsimp only at hSw
          try simp only [List.getElem_toArray, List.getElem_cons_zero, List.getElem_cons_succ]
          go_simp
          try with_reducible rfl
        case rest =>
          try simp only [Act.put, List.setIfInBounds_toArray, List.set_cons_zero, List.set_cons_succ, List.getElem_toArray, List.getElem_cons_zero, List.getElem_cons_succ]
          refine wpAnyH_take (i := 1) (oi := _) (v := ?_) rfl (by kernel_rfl) (by kernel_rfl) (by kernel_rfl) (fun _ _ _ h => h) (Or.inl ⟨by rfl, ?hy⟩) (by assumption) ?rest
          case hy =>
            intro w9 hSw
            try dsimp only at hSw
            try simp only [List.getElem_toArray, List.getElem_cons_zero, List.getElem_cons_succ]
            go_simp
            try with_reducible rfl
          case rest =>
            try simp only [Act.put, List.setIfInBounds_toArray, List.set_cons_zero, List.set_cons_succ, List.getElem_toArray, List.getElem_cons_zero, List.getElem_cons_succ]
            refine wpAnyH_take (i := 2) (oi := _) (v := ?_) rfl (by kernel_rfl) (by kernel_rfl) (by kernel_rfl) (fun _ _ _ h => h) (Or.inl ⟨by rfl, ?hy⟩) (by assumption) ?rest
            case hy =>
              intro w9 hSw
              try dsimp only at hSw
              try simp only [List.getElem_toArray, List.getElem_cons_zero, List.getElem_cons_succ]
              go_simp
              try with_reducible rfl
            case rest =>
              try simp only [Act.put, List.setIfInBounds_toArray, List.set_cons_zero, List.set_cons_succ, List.getElem_toArray, List.getElem_cons_zero, List.getElem_cons_succ]
              refine wpAnyH_take (i := 3) (oi := _) (v := ?_) rfl (by kernel_rfl) (by kernel_rfl) (by kernel_rfl) (fun _ _ _ h => h) (Or.inl ⟨by rfl, ?hy⟩) (by assumption) ?rest
              case hy =>
                intro w9 hSw
                try dsimp only at hSw
                try simp only [List.getElem_toArray, List.getElem_cons_zero, List.getElem_cons_succ]
                go_simp
                try with_reducible rfl
              case rest =>
                try simp only [Act.put, List.setIfInBounds_toArray, List.set_cons_zero, List.set_cons_succ, List.getElem_toArray, List.getElem_cons_zero, List.getElem_cons_succ]
                refine wpAnyH_take (i := 4) (oi := _) (v := ?_) rfl (by kernel_rfl) (by kernel_rfl) (by kernel_rfl) (fun _ _ _ h => h) (Or.inl ⟨by rfl, ?hy⟩) (by assumption) ?rest
                case hy =>
                  intro w9 hSw
                  try dsimp only at hSw
                  try simp only [List.getElem_toArray, List.getElem_cons_zero, List.getElem_cons_succ]
                  go_simp
                  try with_reducible rfl
                case rest =>
                  try simp only [Act.put, List.setIfInBounds_toArray, List.set_cons_zero, List.set_cons_succ, List.getElem_toArray, List.getElem_cons_zero, List.getElem_cons_succ]
                  refine wpAnyH_take (i := 5) (oi := _) (v := ?_) rfl (by kernel_rfl) (by kernel_rfl) (by kernel_rfl) (fun _ _ _ h => h) (Or.inl ⟨by rfl, ?hy⟩) (by assumption) ?rest
                  case hy =>
                    intro w9 hSw
                    try dsimp only at hSw
                    try simp only [List.getElem_toArray, List.getElem_cons_zero, List.getElem_cons_succ]
                    go_simp
                    try with_reducible rfl
                  case rest =>
                    try simp only [Act.put, List.setIfInBounds_toArray, List.set_cons_zero, List.set_cons_succ, List.getElem_toArray, List.getElem_cons_zero, List.getElem_cons_succ]
                    refine wpAnyH_take (i := 6) (oi := _) (v := ?_) rfl (by kernel_rfl) (by kernel_rfl) (by kernel_rfl) (fun _ _ _ h => h) (Or.inl ⟨by rfl, ?hy⟩) (by assumption) ?rest
                    case hy =>
                      intro w9 hSw
                      try dsimp only at hSw
                      try simp only [List.getElem_toArray, List.getElem_cons_zero, List.getElem_cons_succ]
                      go_simp
                      try with_reducible rfl
                    case rest =>
                      try simp only [Act.put, List.setIfInBounds_toArray, List.set_cons_zero, List.set_cons_succ, List.getElem_toArray, List.getElem_cons_zero, List.getElem_cons_succ]
                      refine wpAnyH_take (i := 7) (oi := _) (v := ?_) rfl (by kernel_rfl) (by kernel_rfl) (by kernel_rfl) (fun _ _ _ h => h) (Or.inl ⟨by rfl, ?hy⟩) (by assumption) ?rest
                      case hy =>
                        intro w9 hSw
                        try dsimp only at hSw
                        try simp only [List.getElem_toArray, List.getElem_cons_zero, List.getElem_cons_succ]
                        go_simp
                        try with_reducible rfl
                      case rest =>
                        try simp only [Act.put, List.setIfInBounds_toArray, List.set_cons_zero, List.set_cons_succ, List.getElem_toArray, List.getElem_cons_zero, List.getElem_cons_succ]
                        refine wpAnyH_ready (rs := [8]) (by kernel_rfl) (by simp) (AllReadyH.cons (o := _) rfl (fun K hK => ?_) AllReadyH.nil)
                        refine step_append_new ?hgd (.const (.slice none 0 0)) (.tmp 55) 25 ?ho 5 Try.underlying25 info_u8 ?hs (.slice sp m sc) (pk.data.take m) ?hx ?hy ?hl ?hK
                        case hgd => rfl
                        case ho => rfl
                        case hs => rfl
                        case hx => rfl
                        case hy => exact HSH.out _ HA4.out
                        case hl => have := HTL.out; omega
                        intro v5 w5 ho5 hb5
                        have hb5' : Below w4.heap.size w4 w5 := ⟨hb5.os, hb5.tape, hb5.output, hb5.size, hb5.block⟩
                        have hS1 := (hb5'.cell (p := ⟨w1.heap.size, 1, none⟩) (by show w1.heap.size < _; omega)).trans a1
                        have hS2 := (hb5'.cell (p := ⟨w1.heap.size, 2, none⟩) (by show w1.heap.size < _; omega)).trans a2
                        have hS3 := (hb5'.cell (p := ⟨w1.heap.size, 3, none⟩) (by show w1.heap.size < _; omega)).trans a3
                        have ho5' : Own w5 w4.heap.size 5 v5 (pk.data.take m) := ho5
                        have HO5 := Lib.hid ho5'
                        have HB5 := Lib.hid hb5'
                        clear ho5 hb5 ho5' hb5'
                        refine hK.out _ _ (⟨hS1, hS2, hS3⟩) (fun hHeld => ?_)
                        clear hK K
                        try simp only [Act.put, List.setIfInBounds_toArray, List.set_cons_zero, List.set_cons_succ, List.getElem_toArray, List.getElem_cons_zero, List.getElem_cons_succ]
                        refine wpAnyH_take (i := 9) (oi := _) (v := ?_) rfl (by kernel_rfl) (by kernel_rfl) (by kernel_rfl) (fun _ _ _ h => h) (Or.inl ⟨by rfl, ?hy⟩) (by assumption) ?rest
                        case hy =>
                          intro w9 hSw
                          try dsimp only at hSw
                          try simp only [List.getElem_toArray, List.getElem_cons_zero, List.getElem_cons_succ]
                          go_simp
                          try with_reducible rfl
                        case rest =>
                          try simp only [Act.put, List.setIfInBounds_toArray, List.set_cons_zero, List.set_cons_succ, List.getElem_toArray, List.getElem_cons_zero, List.getElem_cons_succ]
                          refine wpAnyH_take (i := 10) (oi := _) (v := ?_) rfl (by kernel_rfl) (by kernel_rfl) (by kernel_rfl) (fun _ _ _ h => h) (Or.inl ⟨by rfl, ?hy⟩) (by assumption) ?rest
                          case hy =>
                            intro w9 hSw
                            try dsimp only at hSw
                            try simp only [List.getElem_toArray, List.getElem_cons_zero, List.getElem_cons_succ]
                            go_simp
                            try with_reducible rfl
                          case rest =>
                            try simp only [Act.put, List.setIfInBounds_toArray, List.set_cons_zero, List.set_cons_succ, List.getElem_toArray, List.getElem_cons_zero, List.getElem_cons_succ]
                            refine wpAnyH_take (i := 11) (oi := _) (v := ?_) rfl (by kernel_rfl) (by kernel_rfl) (by kernel_rfl) (fun _ _ _ h => h) (Or.inl ⟨by rfl, ?hy⟩) (by assumption) ?rest
                            case hy =>
                              intro w9 hSw
                              try dsimp only at hSw
                              try simp only [List.getElem_toArray, List.getElem_cons_zero, List.getElem_cons_succ]
                              go_simp
                              try with_reducible rfl
                            case rest =>
                              try simp only [Act.put, List.setIfInBounds_toArray, List.set_cons_zero, List.set_cons_succ, List.getElem_toArray, List.getElem_cons_zero, List.getElem_cons_succ]
                              refine wpAnyH_take (i := 12) (oi := _) (v := ?_) rfl (by kernel_rfl) (by kernel_rfl) (by kernel_rfl) (fun _ _ _ h => h) (Or.inl ⟨by rfl, ?hy⟩) (by assumption) ?rest
                              case hy =>
                                intro w9 hSw
                                try dsimp only at hSw
                                try simp only [List.getElem_toArray, List.getElem_cons_zero, List.getElem_cons_succ]
                                go_simp
                                try with_reducible rfl
                              case rest =>
                                try simp only [Act.put, List.setIfInBounds_toArray, List.set_cons_zero, List.set_cons_succ, List.getElem_toArray, List.getElem_cons_zero, List.getElem_cons_succ]
                                refine wpAnyH_done (by kernel_rfl) ?_ _
                                go_wp2
                                refine bodyPost_ret (results_tmp4 rfl _ _ _) rfl ?_
                                have hfresh : ∀ g, v5.ownBlock = some g → w.heap.size ≤ g := fun g hg => by have := (World.ownsRow.lt HO5.out g hg).1; omega
                                refine ⟨HFIN.out.below HB5.out, HK4.out.trans (Keeps.of_below HB5.out) (fun _ _ h => h), ?_⟩
                                unfold DeliverE
                                rw [HPK.out]
                                exact ⟨v5, rfl, by rw [HCUT.out]; exact HO5.out.has.wide, fun g hg => .inr (hfresh g hg), fun _ _ => hfresh⟩
      · have HCUT : Hid (cutV most pk.data = pk.data) := Lib.hid (by unfold cutV; rw [if_neg (by omega)])
        have H1 := Lib.hid h1
        go_wp2_with fail
        rw [← HW4.out]
        refine wp_region_held_drew (S := fun w' => w'.cell? ⟨w1.heap.size, 1, none⟩ = some (.int .i64 pk.fr) ∧ w'.cell? ⟨w1.heap.size, 2, none⟩ = some (.int .i64 pk.to) ∧ w'.cell? ⟨w1.heap.size, 3, none⟩ = some (.slice bp pk.data.length bc)) (by kernel_rfl) ⟨a1, a2, a3⟩ (fun hHeld => ?_)
        refine wpAnyH_take (i := 0) (oi := _) (v := ?_) rfl (by kernel_rfl) (by kernel_rfl) (by kernel_rfl) (fun _ _ _ h => h) (Or.inl ⟨by rfl, ?hy⟩) (by assumption) ?rest
        case hy =>
          intro w9 hSw
          try dsimp only at hSw
          try simp only [List.getElem_toArray, List.getElem_cons_zero, List.getElem_cons_succ]
          go_simp
          try with_reducible rfl
        case rest =>
          try simp only [Act.put, List.setIfInBounds_toArray, List.set_cons_zero, List.set_cons_succ, List.getElem_toArray, List.getElem_cons_zero, List.getElem_cons_succ]
          refine wpAnyH_take (i := 1) (oi := _) (v := ?_) rfl (by kernel_rfl) (by kernel_rfl) (by kernel_rfl) (fun _ _ _ h => h) (Or.inl ⟨by rfl, ?hy⟩) (by assumption) ?rest
          case hy =>
            intro w9 hSw
            try dsimp only at hSw
            try simp only [List.getElem_toArray, List.getElem_cons_zero, List.getElem_cons_succ]
            go_simp
            try with_reducible rfl
          case rest =>
            try simp only [Act.put, List.setIfInBounds_toArray, List.set_cons_zero, List.set_cons_succ, List.getElem_toArray, List.getElem_cons_zero, List.getElem_cons_succ]
            refine wpAnyH_take (i := 2) (oi := _) (v := ?_) rfl (by kernel_rfl) (by kernel_rfl) (by kernel_rfl) (fun _ _ _ h => h) (Or.inl ⟨by rfl, ?hy⟩) (by assumption) ?rest
            case hy =>
              intro w9 hSw
              try dsimp only at hSw
              try simp only [List.getElem_toArray, List.getElem_cons_zero, List.getElem_cons_succ]
              go_simp
              try with_reducible rfl
            case rest =>
              try simp only [Act.put, List.setIfInBounds_toArray, List.set_cons_zero, List.set_cons_succ, List.getElem_toArray, List.getElem_cons_zero, List.getElem_cons_succ]
              refine wpAnyH_take (i := 3) (oi := _) (v := ?_) rfl (by kernel_rfl) (by kernel_rfl) (by kernel_rfl) (fun _ _ _ h => h) (Or.inl ⟨by rfl, ?hy⟩) (by assumption) ?rest
              case hy =>
                intro w9 hSw
                try dsimp only at hSw
                try simp only [List.getElem_toArray, List.getElem_cons_zero, List.getElem_cons_succ]
                go_simp
                try with_reducible rfl
              case rest =>
                try simp only [Act.put, List.setIfInBounds_toArray, List.set_cons_zero, List.set_cons_succ, List.getElem_toArray, List.getElem_cons_zero, List.getElem_cons_succ]
                refine wpAnyH_take (i := 4) (oi := _) (v := ?_) rfl (by kernel_rfl) (by kernel_rfl) (by kernel_rfl) (fun _ _ _ h => h) (Or.inl ⟨by rfl, ?hy⟩) (by assumption) ?rest
                case hy =>
                  intro w9 hSw
                  try dsimp only at hSw
                  try simp only [List.getElem_toArray, List.getElem_cons_zero, List.getElem_cons_succ]
                  go_simp
                  try with_reducible rfl
                case rest =>
                  try simp only [Act.put, List.setIfInBounds_toArray, List.set_cons_zero, List.set_cons_succ, List.getElem_toArray, List.getElem_cons_zero, List.getElem_cons_succ]
                  refine wpAnyH_take (i := 5) (oi := _) (v := ?_) rfl (by kernel_rfl) (by kernel_rfl) (by kernel_rfl) (fun _ _ _ h => h) (Or.inl ⟨by rfl, ?hy⟩) (by assumption) ?rest
                  case hy =>
                    intro w9 hSw
                    try dsimp only at hSw
                    try simp only [List.getElem_toArray, List.getElem_cons_zero, List.getElem_cons_succ]
                    go_simp
                    try with_reducible rfl
                  case rest =>
                    try simp only [Act.put, List.setIfInBounds_toArray, List.set_cons_zero, List.set_cons_succ, List.getElem_toArray, List.getElem_cons_zero, List.getElem_cons_succ]
                    refine wpAnyH_take (i := 6) (oi := _) (v := ?_) rfl (by kernel_rfl) (by kernel_rfl) (by kernel_rfl) (fun _ _ _ h => h) (Or.inl ⟨by rfl, ?hy⟩) (by assumption) ?rest
                    case hy =>
                      intro w9 hSw
                      try dsimp only at hSw
                      try simp only [List.getElem_toArray, List.getElem_cons_zero, List.getElem_cons_succ]
                      go_simp
                      try with_reducible rfl
                    case rest =>
                      try simp only [Act.put, List.setIfInBounds_toArray, List.set_cons_zero, List.set_cons_succ, List.getElem_toArray, List.getElem_cons_zero, List.getElem_cons_succ]
                      refine wpAnyH_take (i := 7) (oi := _) (v := ?_) rfl (by kernel_rfl) (by kernel_rfl) (by kernel_rfl) (fun _ _ _ h => h) (Or.inl ⟨by rfl, ?hy⟩) (by assumption) ?rest
                      case hy =>
                        intro w9 hSw
                        try dsimp only at hSw
                        try simp only [List.getElem_toArray, List.getElem_cons_zero, List.getElem_cons_succ]
                        go_simp
                        try with_reducible rfl
                      case rest =>
                        try simp only [Act.put, List.setIfInBounds_toArray, List.set_cons_zero, List.set_cons_succ, List.getElem_toArray, List.getElem_cons_zero, List.getElem_cons_succ]
                        refine wpAnyH_take (i := 8) (oi := _) (v := ?_) rfl (by kernel_rfl) (by kernel_rfl) (by kernel_rfl) (fun _ _ _ h => h) (Or.inl ⟨by rfl, ?hy⟩) (by assumption) ?rest
                        case hy =>
                          intro w9 hSw
                          try dsimp only at hSw
                          try simp only [List.getElem_toArray, List.getElem_cons_zero, List.getElem_cons_succ]
                          go_simp
                          try with_reducible rfl
                        case rest =>
                          try simp only [Act.put, List.setIfInBounds_toArray, List.set_cons_zero, List.set_cons_succ, List.getElem_toArray, List.getElem_cons_zero, List.getElem_cons_succ]
                          refine wpAnyH_take (i := 9) (oi := _) (v := ?_) rfl (by kernel_rfl) (by kernel_rfl) (by kernel_rfl) (fun _ _ _ h => h) (Or.inl ⟨by rfl, ?hy⟩) (by assumption) ?rest
                          case hy =>
                            intro w9 hSw
                            try dsimp only at hSw
                            try simp only [List.getElem_toArray, List.getElem_cons_zero, List.getElem_cons_succ]
                            go_simp
                            try with_reducible rfl
                          case rest =>
                            try simp only [Act.put, List.setIfInBounds_toArray, List.set_cons_zero, List.set_cons_succ, List.getElem_toArray, List.getElem_cons_zero, List.getElem_cons_succ]
                            refine wpAnyH_done (by kernel_rfl) ?_ _
                            go_wp2
                            refine bodyPost_ret (results_tmp4 rfl _ _ _) rfl ?_
                            refine ⟨HFIN.out, HK4.out.drewN 1, ?_⟩
                            unfold DeliverE
                            rw [HPK.out]
                            exact ⟨_, rfl, by rw [HCUT.out]; exact HA4.out, fun g hg => .inl (HBF.out g hg), fun _ h => by have := H1.out; omega⟩
    · have HCUT : Hid (cutV most pk.data = pk.data) := Lib.hid (by unfold cutV; rw [if_neg (by omega)])
      have H0 := Lib.hid h0
      go_wp2_with fail
      rw [← HW4.out]
      refine wp_region_held_drew (S := fun w' => w'.cell? ⟨w1.heap.size, 1, none⟩ = some (.int .i64 pk.fr) ∧ w'.cell? ⟨w1.heap.size, 2, none⟩ = some (.int .i64 pk.to) ∧ w'.cell? ⟨w1.heap.size, 3, none⟩ = some (.slice bp pk.data.length bc)) (by kernel_rfl) ⟨a1, a2, a3⟩ (fun hHeld => ?_)
      refine wpAnyH_take (i := 0) (oi := _) (v := ?_) rfl (by kernel_rfl) (by kernel_rfl) (by kernel_rfl) (fun _ _ _ h => h) (Or.inl ⟨by rfl, ?hy⟩) (by assumption) ?rest
      case hy =>
        intro w9 hSw
        try dsimp only at hSw
        try simp only [List.getElem_toArray, List.getElem_cons_zero, List.getElem_cons_succ]
        go_simp
        try with_reducible rfl
      case rest =>
        try simp only [Act.put, List.setIfInBounds_toArray, List.set_cons_zero, List.set_cons_succ, List.getElem_toArray, List.getElem_cons_zero, List.getElem_cons_succ]
        refine wpAnyH_take (i := 1) (oi := _) (v := ?_) rfl (by kernel_rfl) (by kernel_rfl) (by kernel_rfl) (fun _ _ _ h => h) (Or.inl ⟨by rfl, ?hy⟩) (by assumption) ?rest
        case hy =>
          intro w9 hSw
          try dsimp only at hSw
          try simp only [List.getElem_toArray, List.getElem_cons_zero, List.getElem_cons_succ]
          go_simp
          try with_reducible rfl
        case rest =>
          try simp only [Act.put, List.setIfInBounds_toArray, List.set_cons_zero, List.set_cons_succ, List.getElem_toArray, List.getElem_cons_zero, List.getElem_cons_succ]
          refine wpAnyH_take (i := 2) (oi := _) (v := ?_) rfl (by kernel_rfl) (by kernel_rfl) (by kernel_rfl) (fun _ _ _ h => h) (Or.inl ⟨by rfl, ?hy⟩) (by assumption) ?rest
          case hy =>
            intro w9 hSw
            try dsimp only at hSw
            try simp only [List.getElem_toArray, List.getElem_cons_zero, List.getElem_cons_succ]
            go_simp
            try with_reducible rfl
          case rest =>
            try simp only [Act.put, List.setIfInBounds_toArray, List.set_cons_zero, List.set_cons_succ, List.getElem_toArray, List.getElem_cons_zero, List.getElem_cons_succ]
            refine wpAnyH_take (i := 3) (oi := _) (v := ?_) rfl (by kernel_rfl) (by kernel_rfl) (by kernel_rfl) (fun _ _ _ h => h) (Or.inl ⟨by rfl, ?hy⟩) (by assumption) ?rest
            case hy =>
              intro w9 hSw
              try dsimp only at hSw
              try simp only [List.getElem_toArray, List.getElem_cons_zero, List.getElem_cons_succ]
              go_simp
              try with_reducible rfl
            case rest =>
              try simp only [Act.put, List.setIfInBounds_toArray, List.set_cons_zero, List.set_cons_succ, List.getElem_toArray, List.getElem_cons_zero, List.getElem_cons_succ]
              refine wpAnyH_take (i := 4) (oi := _) (v := ?_) rfl (by kernel_rfl) (by kernel_rfl) (by kernel_rfl) (fun _ _ _ h => h) (Or.inl ⟨by rfl, ?hy⟩) (by assumption) ?rest
              case hy =>
                intro w9 hSw
                try dsimp only at hSw
                try simp only [List.getElem_toArray, List.getElem_cons_zero, List.getElem_cons_succ]
                go_simp
                try with_reducible rfl
              case rest =>
                try simp only [Act.put, List.setIfInBounds_toArray, List.set_cons_zero, List.set_cons_succ, List.getElem_toArray, List.getElem_cons_zero, List.getElem_cons_succ]
                refine wpAnyH_take (i := 5) (oi := _) (v := ?_) rfl (by kernel_rfl) (by kernel_rfl) (by kernel_rfl) (fun _ _ _ h => h) (Or.inl ⟨by rfl, ?hy⟩) (by assumption) ?rest
                case hy =>
                  intro w9 hSw
                  try dsimp only at hSw
                  try simp only [List.getElem_toArray, List.getElem_cons_zero, List.getElem_cons_succ]
                  go_simp
                  try with_reducible rfl
                case rest =>
                  try simp only [Act.put, List.setIfInBounds_toArray, List.set_cons_zero, List.set_cons_succ, List.getElem_toArray, List.getElem_cons_zero, List.getElem_cons_succ]
                  refine wpAnyH_take (i := 6) (oi := _) (v := ?_) rfl (by kernel_rfl) (by kernel_rfl) (by kernel_rfl) (fun _ _ _ h => h) (Or.inl ⟨by rfl, ?hy⟩) (by assumption) ?rest
                  case hy =>
                    intro w9 hSw
                    try dsimp only at hSw
                    try simp only [List.getElem_toArray, List.getElem_cons_zero, List.getElem_cons_succ]
                    go_simp
                    try with_reducible rfl
                  case rest =>
                    try simp only [Act.put, List.setIfInBounds_toArray, List.set_cons_zero, List.set_cons_succ, List.getElem_toArray, List.getElem_cons_zero, List.getElem_cons_succ]
                    refine wpAnyH_take (i := 7) (oi := _) (v := ?_) rfl (by kernel_rfl) (by kernel_rfl) (by kernel_rfl) (fun _ _ _ h => h) (Or.inl ⟨by rfl, ?hy⟩) (by assumption) ?rest
                    case hy =>
                      intro w9 hSw
                      try dsimp only at hSw
                      try simp only [List.getElem_toArray, List.getElem_cons_zero, List.getElem_cons_succ]
                      go_simp
                      try with_reducible rfl
                    case rest =>
                      try simp only [Act.put, List.setIfInBounds_toArray, List.set_cons_zero, List.set_cons_succ, List.getElem_toArray, List.getElem_cons_zero, List.getElem_cons_succ]
                      refine wpAnyH_take (i := 8) (oi := _) (v := ?_) rfl (by kernel_rfl) (by kernel_rfl) (by kernel_rfl) (fun _ _ _ h => h) (Or.inl ⟨by rfl, ?hy⟩) (by assumption) ?rest
                      case hy =>
                        intro w9 hSw
                        try dsimp only at hSw
                        try simp only [List.getElem_toArray, List.getElem_cons_zero, List.getElem_cons_succ]
                        go_simp
                        try with_reducible rfl
                      case rest =>
                        try simp only [Act.put, List.setIfInBounds_toArray, List.set_cons_zero, List.set_cons_succ, List.getElem_toArray, List.getElem_cons_zero, List.getElem_cons_succ]
                        refine wpAnyH_take (i := 9) (oi := _) (v := ?_) rfl (by kernel_rfl) (by kernel_rfl) (by kernel_rfl) (fun _ _ _ h => h) (Or.inl ⟨by rfl, ?hy⟩) (by assumption) ?rest
                        case hy =>
                          intro w9 hSw
                          try dsimp only at hSw
                          try simp only [List.getElem_toArray, List.getElem_cons_zero, List.getElem_cons_succ]
                          go_simp
                          try with_reducible rfl
                        case rest =>
                          try simp only [Act.put, List.setIfInBounds_toArray, List.set_cons_zero, List.set_cons_succ, List.getElem_toArray, List.getElem_cons_zero, List.getElem_cons_succ]
                          refine wpAnyH_done (by kernel_rfl) ?_ _
                          go_wp2
                          refine bodyPost_ret (results_tmp4 rfl _ _ _) rfl ?_
                          refine ⟨HFIN.out, HK4.out.drewN 1, ?_⟩
                          unfold DeliverE
                          rw [HPK.out]
                          exact ⟨_, rfl, by rw [HCUT.out]; exact HA4.out, fun g hg => .inl (HBF.out g hg), fun h _ => by have := H0.out; omega⟩
  · have HNO := Lib.hid hno
    clear hno
    go_wp2
    refine bodyPost_ret (results_tmp4 rfl _ _ _) rfl ?_
    refine ⟨by rw [takeV_none HNO.out]; exact HN.out, Keeps.of_below HB.out, ?_⟩
    unfold DeliverE
    rw [pkAt_none HNO.out]
    rfl
end Go.Proofs.Ytaopnoaopcbkoaa
