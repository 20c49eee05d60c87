import Derived.Test.YtlfiakpmnkhcdaaLZN
namespace Ob
set_option maxRecDepth 1000000 in
theorem lb1_40961 : lb1 2048 40961 = true := by decide +kernel
set_option maxRecDepth 1000000 in
theorem lb1_45057 : lb1 2048 45057 = true := by decide +kernel
set_option maxRecDepth 1000000 in
theorem lb1_49153 : lb1 2048 49153 = true := by decide +kernel
set_option maxRecDepth 1000000 in
theorem lb1_53249 : lb1 2048 53249 = true := by decide +kernel
set_option maxRecDepth 1000000 in
theorem lb1_57345 : lb1 2048 57345 = true := by decide +kernel
set_option maxRecDepth 1000000 in
theorem lb1_61441 : lb1 2048 61441 = true := by decide +kernel
end Ob
